import Derived.Test.YthejglbnkmimjaaGreatPp10
import Derived.Test.YthejglbnkmimjaaGreatPp11
set_option linter.unusedVariables false
set_option maxRecDepth 100000
set_option maxHeartbeats 9000000
namespace Go.Proofs.YthejglbnkmimjaaGreat
open Proofs.Tryz
section
open Go.RowKit
section
variable {w:World}{base g mb:Nat}{vF:Value}{E:List Ent}{K:List Nat}{D:jL}
theorem PAt.cells(h:PAt w base g mb vF E K D):w.cell? ⟨g,0,none⟩=some (ptr g)/\w.cell? ⟨g,1,none⟩=some (.int .i64 (D.cap:Nat))/\w.cell? ⟨g,2,none⟩=some (.map (some mb))/\w.cell? ⟨g,3,none⟩=some (.bool (!D.down)) /\
  w.cell? ⟨g,4,none⟩=some (.int .i64 (D.count:Nat))/\w.cell? ⟨g,5,none⟩=some (.int .i64 (D.xB:Nat))/\w.cell? ⟨g,6,none⟩=some vF :=
 ⟨h.xE.cell 0,h.xE.cell 1,h.xE.cell 2,h.xE.cell 3,h.xE.cell 4,h.xE.cell 5,h.xE.cell 6⟩
theorem nx(h:PAt w base g mb vF E K D){n:Tw}(d:jx D.l n<D.l.length):∃x,E[jx D.l n]? = some x/\D.l[jx D.l n]? = some x.f/\x.f.name=n:=by
 obtain⟨f,b,i⟩:=mh d;have a:=b;generalize jx D.l n=k at*;rw[h.xN,qv]at a;cases c:E[k]? with
 | none=>rw[c]at a;cases a
 | some x =>
   rw[c]at a;obtain rfl:x.f=f:=(by simpa using a);exact⟨x,rfl,b,i⟩
theorem CA: (prog.info? 83).map (·.size)=some 7:=by kernel_rfl
theorem qXn(d:Nat)(p:Addr)(w:World):(Op.equalIn (d+1) 31 (.pointer (some p)) (.pointer (some p))).run prog w=.ok true w:=by
 cases a:prog.info? 83 with
 | none=>have:=CA;rw[a]at this;cases this
 | some i =>
   have b:i.size=7:=(by have:=CA;rw[a]at this;simpa using this);simp[Op.equalIn,run_underlying Tryz.underlying31,sizeOf,typeInfo,a,sameAddr]
theorem qXp(p:Addr)(w:World):(binOp .neq 31 (.pointer (some p)) (.pointer (some p))).run prog w=.ok (.bool false) w:=by
 have a:(Op.equal 31 (.pointer (some p)) (.pointer (some p))).run prog w=.ok true w:=qXn 9999 p w;simp only[binOp];simp[a]
theorem nz(h:w.cell? ⟨g,0,none⟩=some (ptr g)):Calls prog 32 #[ptr g] w (X0 (.bool false) w):=by
 have a:=qXp ⟨g,0,none⟩;go_enter func32,ntmps32;go_wp2;go_ret;exact⟨rfl,rfl⟩
def lL(D:jL):Nat:=if D.down then 61 else 0
theorem Qy(h:PAt w base g mb vF E K D):Calls prog 50 #[ptr g] w (X0 (.int .i64 (lL D:Nat)) w):=by
 obtain⟨c0,c1,c2,b,c,d,f⟩:=h.cells;have i:=qQ (nz c0);unfold lL;cases a:D.down
 all_goals
  rw[a]at b;clear a h c1 c2 c d f c0;go_enter func50,ntmps50;go_wp2_with fail;refine X5 i.out ?_;go_wp2;go_ret;exact⟨rfl,rfl⟩
theorem CB(n:Tw)(w:World)(c:n.size<=maxLen):Calls prog 248 #[n] w (X0 (.bool (vY n)) w):=by
 unfold maxLen at c;by_cases a:0<n.size
 ·by_cases b:n.size<=12
  ·have e:vY n=true:=(by unfold vY;rw[qB a,qB b];rfl);have d:decide ((1:Int)<=(n.size:Int))=true:=qB (by omega);have t:decide ((n.size:Int)<=12)=true:=qB (by omega);rw[e];clear e;go_enter func248,ntmps248;go_wp2;go_ret;exact⟨rfl,rfl⟩
  ·have e:vY n=false:=(by unfold vY;rw[qA b,Bool.and_false]);have d:decide ((1:Int)<=(n.size:Int))=true:=qB (by omega);have t:decide ((n.size:Int)<=12)=false:=qA (by omega);rw[e];clear e;go_enter func248,ntmps248;go_wp2;go_ret;exact⟨rfl,rfl⟩
 ·have e:vY n=false:=by unfold vY;rw[qA a,Bool.false_and]
  have t:decide ((1:Int)<=(n.size:Int))=false:=qA (by omega);have f:n.size=0:=by omega
  rw[e];clear e;go_enter func248,ntmps248;go_wp2;go_ret;exact⟨rfl,rfl⟩
theorem qXr(h:PAt w base g mb vF E K D){k:Nat}{x:Ent}(a:E[k]? = some x)(l:x.f.name.size<=maxLen):Calls prog 240 #[ptr g,x.f.name] w (X0 (.tuple #[ptr x.b,.int .i64 0]) w):=by
 obtain⟨c0,c1,c2,c,d,i,j⟩:=h.cells;have m:=qQ (nz c0);have o:=h.map.look l (b:=x.b) (qP.2 ⟨x,qN a,rfl⟩);generalize x.f.name=n at*;generalize x.b=b at*;clear a h c1 c d i j c0;go_enter func240,ntmps240;go_wp2_with fail;refine X5 m.out ?_;go_wp2;go_ret2;exact⟨rfl,rfl⟩
theorem qXs(h:PAt w base g mb vF E K D){n:Tw}(a:¬jx D.l n<D.l.length)(j:n.size<=maxLen):Calls prog 240 #[ptr g,n] w (X0 (.tuple #[.pointer none,.int .i64 4]) w):=by
 obtain⟨c0,c1,c2,b,c,d,i⟩:=h.cells;have m:=qQ (nz c0)
 have q:=h.map.zq j (fun y p=>by
  obtain⟨x,o,rfl⟩:=qP.1 p;exact sX a x.f (by rw[h.xN];exact qP.2 ⟨x,o,rfl⟩))
 clear a h c1 b c d i c0;go_enter func240,ntmps240;go_wp2_with fail;refine X5 m.out ?_;go_wp2;go_ret2;exact⟨rfl,rfl⟩
theorem ot(h:PAt w base g mb vF E K D)(c:D.down=false){k:Nat}{x:Ent}(d:E[k]? = some x)(l:x.f.name.size<=maxLen):Calls prog 187 #[ptr g,x.f.name] w (X0 (.tuple #[ptr x.b,.int .i64 0]) w):=by
 have i:=qQ (Qy h);have a:lL D=0:=by unfold lL;rw[c];rfl
 rw[a]at i;have j:=qQ (qXr h d l);generalize x.f.name=n at*;generalize x.b=b at*;clear d h c a;go_enter func187,ntmps187;go_wp2_with fail;refine X5 i.out ?_;go_wp2_with fail;refine X5 j.out ?_;go_wp2;go_ret2;exact⟨rfl,rfl⟩
theorem oi(h:PAt w base g mb vF E K D)(b:D.down=false){n:Tw}(c:¬jx D.l n<D.l.length)(i:n.size<=maxLen):Calls prog 187 #[ptr g,n] w (X0 (.tuple #[.pointer none,.int .i64 4]) w):=by
 have d:=qQ (Qy h);have a:lL D=0:=by unfold lL;rw[b];rfl
 rw[a]at d;have f:=qQ (qXs h c i);clear c h b a;go_enter func187,ntmps187;go_wp2_with fail;refine X5 d.out ?_;go_wp2_with fail;refine X5 f.out ?_;go_wp2;go_ret2;exact⟨rfl,rfl⟩
theorem oo(h:PAt w base g mb vF E K D)(b:D.down=true)(n:Tw):Calls prog 187 #[ptr g,n] w (X0 (.tuple #[.pointer none,.int .i64 61]) w):=by
 have c:=qQ (Qy h);have a:lL D=61:=by unfold lL;rw[b];rfl
 rw[a]at c;clear h b a;go_enter func187,ntmps187;go_wp2_with fail;refine X5 c.out ?_;go_wp2;go_ret2;exact⟨rfl,rfl⟩
end
theorem qXt{P:Program}(x y:Int)(m:Int)(h:m=if x<y then y else x):∀a t w,(Builtin.max_ a t #[x,y]).run P w=.ok (.int .i64 m) w:=fun a t w=>by
 rw[run_max_int2,h]
theorem CC{w:World}{base:Nat}{v:Value}{d:Tw}(h:bh w base v d):(v=.slice none 0 0/\d.size=0)∨∃b a,v=.slice (some ⟨b,0,none⟩) d.size a/\d.size<=a/\a<=maxLen/\base<=b/\b<w.1.size:=by
 rcases h.2 with⟨rfl,e⟩|⟨g,a,j,rfl,i,o,c,f,l,m⟩
 ·exact qX ⟨rfl,e⟩
 ·exact qY ⟨g,a,rfl,c,f,i,(h.lt g rfl).2⟩
theorem qXa{w:World}{base:Nat}{d:Tw}(h:d.size=0):bh w base (.slice none 0 0) d:=⟨by rw[byteCells_length];omega,qX ⟨rfl,h⟩⟩
theorem CD{k:Int}(h:0<=k):(if 0<k then(0:Int) else k)=0:=by split<;>omega
theorem CE(b:Nat)(w:World)(u v:Value):jP [b] w ((w.setCell ⟨b,0,none⟩ u).setCell ⟨b,1,none⟩ v) :=
 ((jP.refl [b] w).setCell (p:=⟨b,0,none⟩) (qX (qH.2 rfl)) _).setCell (p:=⟨b,1,none⟩) (qX (qH.2 rfl)) _
def Qu(base:Nat)(x:Ent)(w:World)(f:jO)(e:Ending)(w':World):Prop :=
 ∃v,e=.returned (.tuple #[])/\vS w' base ⟨f,x.b,v⟩/\v.ownBlock=x.v.ownBlock/\jP [x.b] w w'
theorem vS.cells{w:World}{base:Nat}{x:Ent}(h:vS w base x):w.cell? ⟨x.b,0,none⟩=some x.v/\w.cell? ⟨x.b,1,none⟩=some (.int .i64 (x.f.synced:Nat))/\w.frozen? ⟨x.b,0,none⟩=false/\w.frozen? ⟨x.b,1,none⟩=false :=
 ⟨h.1.cell 0,h.1.cell 1,h.1.frozen 0,h.1.frozen 1⟩
theorem vS.put{w:World}{base:Nat}{x:Ent}(h:vS w base x){v:Value}{d:Tw}(a:bh w base v d):vS (w.setCell ⟨x.b,0,none⟩ v) base ⟨⟨x.f.name,d,x.f.synced⟩,x.b,v⟩ :=
 ⟨h.1.put 0 v,h.2.1,vz a (vO a h.1 (by decide)) _⟩
theorem vS.zA{w:World}{base:Nat}{x:Ent}(h:vS w base x)(n:Nat):vS (w.setCell ⟨x.b,1,none⟩ (.int .i64 (n:Nat))) base ⟨⟨x.f.name,x.f.data,n⟩,x.b,x.v⟩ :=
 ⟨h.1.put 1 _,h.2.1,vz h.2.2 (vO h.2.2 h.1 (by decide)) _⟩
theorem qXe{w:World}{base:Nat}{x:Ent}(h:vS w base x)(k:Int)(z:0<=k)(N:x.f.data.size<=1048576)(m:Nat)(o:m=min k.toNat x.f.data.size):
  Calls prog 163 #[ptr x.b,k] w (Qu base x w ⟨x.f.name,x.f.data.extract 0 m,min x.f.synced m⟩):=by
 obtain⟨c0,c1,I,J⟩:=h.cells;have A:=@Xv prog k x.f.data.size m (by split<;>omega);have B:=@Xv prog x.f.synced m (min x.f.synced m) (by split<;>omega);have p:m<=x.f.data.size:=by omega
 rcases CC h.2.2 with⟨e,u⟩|⟨b,s,e,O,C,L,M⟩
 ·obtain rfl:m=0:=by omega
  have c:bh w base (.slice none 0 0) (x.f.data.extract 0 0):=qXa (by rw[qk];omega);have H:=qQ h;have F:=qQ c;have l:x.v.ownBlock=none:=by rw[e];rfl
  rw[e]at c0;have A:∀d t w,(Builtin.min_ d t #[k,.int .i64 0]).run prog w=.ok (.int .i64 0) w:=fun d t w=>by rw[run_min_int2,CD z]
  have B:∀d t w,(Builtin.min_ d t #[x.f.synced,.int .i64 0]).run prog w=.ok (.int .i64 0) w:=fun d t w=>by rw[run_min_int2,CD (by omega)]
  have a:=(h.put c)
  have q:=a.1.cell 0;have r:=a.1.cell 1;have y:=a.1.frozen 1;have i:=qQ (a.zA (min x.f.synced 0));rw[Nat.min_zero]at i ⊢;clear a h c p o u;go_enter func163,ntmps163;go_wp2;go_region
  go_wp2_with fail;go_region
  go_end0;exact⟨_,rfl,i.out,l.symm,((CE x.b w _ _).drew).drew⟩
 ·have j:=h.2.2;rw[e]at j;have c:=qQv j p;have l:x.v.ownBlock=some b:=by rw[e];rfl
  rw[e]at c0;have a:=h.put c;have q:=a.1.cell 0;have r:=a.1.cell 1;have y:=a.1.frozen 1;have i:=qQ (a.zA (min x.f.synced m));unfold maxLen at C;have P:(0:Int)<=(m:Int):=by omega
  have Q:(m:Int)<=(s:Int):=by omega
  clear a h c o j;go_enter func163,ntmps163;go_wp2;go_region
  go_wp2_with fail;go_region
  go_end0;exact⟨_,rfl,i.out,l.symm,((CE x.b w _ _).drew).drew⟩
theorem qXi{w:World}{base:Nat}{x:Ent}(h:vS w base x)(n:Int)(hs:x.f.synced<=x.f.data.size)(S:x.f.data.size<=1048576):
  Calls prog 99 #[ptr x.b,n] w (Qu base x w (gX x.f n)):=by
 obtain⟨c0,c1,J,L⟩:=h.cells;obtain⟨m,l⟩:∃m,m=min n.toNat (x.f.data.size-x.f.synced):=⟨_,rfl⟩
 have hst:lq x.f n=x.f.synced+m:=by unfold lq;rw[l]
 have j:gX x.f n=⟨x.f.name,x.f.data.extract 0 (x.f.synced+m),x.f.synced+m⟩:=by unfold gX;rw[hst]
 obtain⟨t,c⟩:∃t:Nat,(t:Int)=if n<0 then 0 else n:=⟨n.toNat,by split<;>omega⟩
 have P:=@qXt prog n 0 t c;have Q:=@Xv prog t ((x.f.data.size:Int)-(x.f.synced:Int)) m (by split<;>split at c<;>omega);have hcut:=qQ (fun W (O:vS W base x)=>qXe O ((x.f.synced:Int)+(m:Int)) (by omega) S (x.f.synced+m) (by omega));have q:(x.f.data.extract 0 (x.f.synced+m)).size=x.f.synced+m:=by rw[qk];omega
 have o:min x.f.synced (x.f.synced+m)=x.f.synced:=by omega
 rw[j];rw[o]at hcut;have z:=qQ q;have i:=qQ h;have X:(x.f.synced:Int)+(m:Int)<=1048576:=by omega
 have Y:0<=(x.f.data.size:Int)-(x.f.synced:Int):=by omega
 have Z:(x.f.data.size:Int)<=1048576:=by omega
 obtain⟨A,aa,s,T,U,_⟩:=mE h.2.2;rw[s]at c0;clear s j hst l c o h q T U;go_enter func99,ntmps99;go_wp2_with fail;go_region
 go_wp2_with fail;refine(hcut.out _ (by first|exact i.out|exact i.out.drew)).mono ?_;rintro e w2⟨v2,rfl,a,u,r⟩;obtain⟨H,I,M,N⟩:=a.cells;obtain⟨V,ab,d,_⟩:=mE a.2.2;dsimp only at d H I M N;rw[z.out]at d;have v:=qQ (a.zA (x.f.synced+m));have C:=qQ u;have B:=qQ r;subst d;clear u r a c0 c1 J L hcut Q P;go_wp2;go_end0;exact⟨_,rfl,v.out,C.out,(jP.trans (F:=[x.b]) (by first|exact jP.refl _ _|exact(jP.refl _ _).drew) B.out (fun y R=>qX R)).setCell (p:=⟨x.b,1,none⟩) (qX (qH.2 rfl)) _⟩
end
section
open Go.RowKit Go.Maps Go.Sort Go.Shelf
theorem qXo(m:Nat):AnyZ.SortsIn prog Tryz.sorted161_ren Fence.wide m :=
 ⟨fun b off a i W c d f=>callsIn_wide.2 (AnyM.slices_Sort_string Tryz.sort216 b off a i W c d f),fun p a W=>callsIn_wide.2 (AnyM.slices_Sort_string_none Tryz.sort216 p a W)⟩
theorem qXw(mb:Nat)(w:World):Calls prog 162 #[.map (some mb)] w fun e w'=>e=.returned (.func (.func 217) #[] #[.pointer (some ⟨w.1.size,0,none⟩)])/\w'=w.alloc (.cells #[.map (some mb)] 80) :=
 callsIn_wide.1 (AnyZ.keys_in Tryz.keys162 Fence.wide 5 trivial rfl (some mb) w)
theorem qZQ(b f:Nat)(a:DataW Unit)(R:Value->Option (DataW Unit × List MemPlace))(w:World)(d:w.ownsMap prog 9 R b f a)(z:Maps.size a<=maxLen)(u:Maps.size a*16<=140737488355328):
  Calls prog 161 #[.func (.func 217) #[] #[.pointer (some ⟨w.1.size,0,none⟩)]] (w.alloc (.cells #[.map (some b)] 80)) fun e w'=>∃(v:Value) (c:List (List UInt8)),e=.returned v/\c.Perm (strKeys a) /\
   w'.ownsRow (w.alloc (.cells #[.map (some b)] 80)).1.size 9 1 v c.length ((c.mergeSort (fun x y=>decide (x<=y))).map encStr)/\Below (w.alloc (.cells #[.map (some b)] 80)).1.size (w.alloc (.cells #[.map (some b)] 80)) w':=by
 have t:=d.lt
 have B:SeqGives Fence.wide 2 prog 217 #[.pointer (some ⟨w.1.size,0,none⟩)] encStr (fun c=>c.Perm (strKeys a)) (Maps.size a) (w.alloc (.cells #[.map (some b)] 80)) :=
  AnyZ.keys_gives (ρ:=Tryz.keys162_ren) { Tryz.keys162 with } Fence.wide _ trivial rfl (by omega) w.1.size b f a _ (by simp) (by simp) (by
   obtain⟨l,j,s,i,A,r⟩:=d;exact⟨l,j,(Below.heap_alloc _ _ b t).trans s,i,A,r⟩)
 have h:=AnyZ.sorted_in Tryz.sorted161 Fence.wide 5 trivial trivial trivial trivial rfl (by omega) (qXo _) (enters_of func216 (by kernel_rfl) rfl) 217 #[.pointer (some ⟨w.1.size,0,none⟩)] trivial (enters_of func217 (by kernel_rfl) rfl) _ _ z u _ B;refine(callsIn_wide.1 h).mono ?_;rintro e w'⟨v,c,m,o,p,_,q⟩;exact⟨v,c,m,o,p,q⟩
section
variable {w:World}{base g mb:Nat}{vF:Value}{E:List Ent}{K:List Nat}{D:jL}
def CF(w:World)(l:List jO)(e:Ending)(w':World):Prop:=∃v,e=.returned v/\uP w' v (l.map jO.name)/\(∀b,v.ownBlock=some b->w.1.size<=b)/\jP [] w w'
theorem qZX{w:World}{base:Nat}{v:Value}{l:List Tw}(h:w.ownsRow base 9 1 v l.length (l.map Value.string)):uP w v l:=by
 rcases h.2 with⟨rfl,e⟩|⟨b,f,cs,rfl,_,a,j,m,_,o⟩
 ·exact qX ⟨List.eq_nil_of_length_eq_zero e,none,0,rfl⟩
 ·refine qY ⟨b,0,f,rfl,j,m, ?_,fun i x d=>?_⟩
  ·rcases qd b w.1.size with c|c
   ·exact c
   ·rw[Array.getElem?_eq_none c]at a;cases a
  ·have p:=(qO.1 d).1;rw[qe,h.cellAt i (by omega),qv,d];rfl
theorem Jn(h:PAt w base g mb vF E K D):(E.map Ent.nb).map (fun x=>x.1.data.toList)=D.l.map (fun f=>f.name.data.toList):=by
 rw[h.xN,List.map_map,List.map_map];rfl
theorem CH(h:PAt w base g mb vF E K D)(m:D.l.length<=400):Calls prog 98 #[ptr g] w (CF w D.l):=by
 obtain⟨c0,c1,c2,J,L,M,N⟩:=h.cells;have R:=qQ (nz c0);obtain⟨n,d,c,i⟩:=h.map;have o:((E.map Ent.nb).map (fun x=>x.1.data.toList)).Nodup:=by rw[Jn h];exact BG h.xI
 have j:=i.keys c o;have I:=i.size c o;rw[Jn h]at j
 have Q:Maps.size d<=400:=by
  rw[I,qq];have:=h.xN;rw[this,qq]at m;exact m
 have F:=h.xI;have t:=qQ (qZQ mb n d gC w c (by unfold maxLen;omega) (by omega));have r:=qQ (qXw mb w)
 have C:∀(v:Value) (a:List (List UInt8)) (w':World),a.Perm (strKeys d)->w'.ownsRow (w.alloc (.cells #[.map (some mb)] 80)).1.size 9 1 v a.length ((a.mergeSort (fun x y=>decide (x<=y))).map encStr) ->
   Below (w.alloc (.cells #[.map (some mb)] 80)).1.size (w.alloc (.cells #[.map (some mb)] 80)) w'->CF w D.l (.returned v) w':=by
  intro v a w' S p O;have B:a.Perm (D.l.map (fun f=>f.name.data.toList)):=S.trans j.symm;rw[qQ6 F B]at p
  have e:(D.l.map (fun f=>f.name.data.toList)).map encStr=(D.l.map jO.name).map Value.string:=by
   rw[List.map_map,List.map_map];apply List.map_congr_left;intro f _;show encStr f.name.data.toList=.string f.name;unfold encStr;simp
  rw[e,B.length_eq,qq]at p;have H:w'.ownsRow (w.alloc (.cells #[.map (some mb)] 80)).1.size 9 1 v (D.l.map jO.name).length ((D.l.map jO.name).map Value.string):=by rw[qq];exact p
  refine⟨v,rfl,qZX H,fun b P=>?_,(((jP.refl [] w).alloc _).trans (jP.xA O) (fun x T=>by cases T))⟩;have:=(H.lt b P).1;have U:(w.alloc (.cells #[.map (some mb)] 80)).1.size=w.1.size+1:=by simp
  omega
 have s:=qQ C;clear C o j I Q F h c i c0 c1 J L M N m;go_enter func98,ntmps98;go_wp2_with fail;refine X5 R.out ?_;go_wp2_with fail;refine r.out.mono ?_;rintro e w'⟨rfl,rfl⟩;go_wp2_with fail;refine t.out.mono ?_;rintro e w'⟨v,a,rfl,u,z,A⟩;have q:=qQ (s.out v a w' u z A);clear u z A t r s;obtain⟨W,V,_⟩:=q.out;go_wp2;go_ret;exact q.out
end
end
section
open Go.RowKit
theorem uP.xC{F:List Nat}{w w':World}{v:Value}{l:List Tw}(h:uP w v l)(c:jP F w w')(hF:∀b,v.ownBlock=some b->b ∉ F):uP w' v l:=by
 rcases h with h|⟨b,off,d,rfl,f,j,a,m⟩
 ·exact qX h
 ·exact qY ⟨b,off,d,rfl,f,j,qS a c.size,fun i x o=>(c.cell (p:=⟨b,off+i,none⟩) a (hF b rfl)).trans (m i x o)⟩
theorem kN.later{F:List Nat}{w w':World}{v:Value}{l:List Int}(h:kN w v l)(a:jP F w w')(hF:l≠[]->∀b,v.ownBlock=some b->b ∉ F):kN w' v l:=by
 by_cases e:l=[]
 ·subst e;rcases h with h|⟨b,off,c,rfl,_⟩
  ·exact qX h
  ·exact qX ⟨rfl,_,_,rfl⟩
 ·exact h.xC a (hF e)
def FB(E:List Ent):List Nat:=E.flatMap Ent.blocks
theorem ow{E:List Ent}{b:Nat}:b∈FB E↔∃x∈E,b∈x.blocks:=xV
theorem CI{E E':List Ent}(h:E'.map Ent.blocks=E.map Ent.blocks):FB E'=FB E:=by
 unfold FB;rw[List.flatMap_def,List.flatMap_def,h]
theorem qZZ(l:List jO)(keep:List Int):bO l keep 0=l:=by
 unfold bO;apply xJ;intro i;rw[List.getElem?_mapIdx];cases l[i]?<;>simp
theorem qZJ(l:List jO)(keep:List Int):bO l keep l.length=bP l keep:=by
 unfold bO bP;apply xJ;intro i;rw[List.getElem?_mapIdx,List.getElem?_mapIdx];rcases qd i l.length with c|c
 ·simp only[if_pos c]
 ·rw[xX c];rfl
theorem qZK{l:List jO}{keep:List Int}{k:Nat}{f:jO}(h:l[k]? = some f):(bO l keep k).set k (gX f (keep.getD k 0))=bO l keep (k+1):=by
 have a:=(qO.1 h).1;unfold bO;apply xJ;intro i;rw[List.getElem?_set,List.getElem?_mapIdx,List.getElem?_mapIdx,List.length_mapIdx];by_cases e:k=i
 ·subst e;rw[qV rfl,qV a,h,Option.map_some,qV (Nat.lt_succ_self _)]
 ·rw[qZ e];cases l[i]? with
  | none=>rfl
  | some x =>
    rw[Option.map_some,Option.map_some];by_cases c:i<k
    ·rw[qV c,qV (by omega)]
    ·rw[qZ c,qZ (by omega)]
theorem qZV(l:List jO)(keep:List Int)(k:Nat):(bO l keep k)[k]? = l[k]? := by
 unfold bO;rw[List.getElem?_mapIdx];cases l[k]? with
 | none=>rfl
 | some x=>rw[Option.map_some,qZ (Nat.lt_irrefl _)]
section
variable {w:World}{base g mb:Nat}{vF:Value}{E:List Ent}{K:List Nat}{D:jL}
def sU(w:World)(base g mb:Nat)(vF:Value)(E:List Ent)(K:List Nat)(D:jL)(keep:List Int)(b a:Value)(k:Nat)(wr:World):Prop :=
 ∃E',PAt wr base g mb vF E' K { D with l:=bO D.l keep k }/\E'.map Ent.blocks=E.map Ent.blocks/\jP (FB E) w wr/\uP wr b (D.l.map jO.name)/\kN wr a keep
theorem sU.next{keep:List Int}{q p:Value}{k:Nat}{wr w2:World}(h:sU w base g mb vF E K D keep q p k wr)(P:PAt w base g mb vF E K D)(y:∀b,q.ownBlock=some b->b ∉ FB E)(C:keep≠[]->∀b,p.ownBlock=some b->b ∉ FB E)
  {E':List Ent} (z:PAt wr base g mb vF E' K { D with l:=bO D.l keep k }) (s:E'.map Ent.blocks=E.map Ent.blocks) {x:Ent} {f:jO} (I:D.l[k]? = some f) (d:E'[k]? = some x) (N:x.f=f) {e:Ending} (H:Qu base x wr (gX x.f (keep.getD k 0)) e w2):
  sU w base g mb vF E K D keep q p (k+1) w2:=by
 obtain⟨v,_,t,r,c⟩:=H;obtain⟨_,_,_,B,A,u⟩:=h;have O:=qN d;have F:x.b∈FB E:=by rw[<-CI s];exact ow.2 ⟨x,O,by simp[Ent.blocks]⟩
 have o:∀b∈[x.b],b∈FB E:=fun b a=>by rw[qH.1 a];exact F
 refine⟨E'.set k ⟨gX x.f (keep.getD k 0),x.b,v⟩, ?_, ?_,B.trans c (fun b a=>qX (o b a)),A.xC c (fun b a i=>y b a (o b i)),u.later c (fun M b a i=>C M b a (o b i))⟩
 ·have m:=z.zM d ⟨gX x.f (keep.getD k 0),x.b,v⟩ rfl rfl c (fun b a=>by rw[qH.1 a];simp[Ent.blocks]) t (fun b a=>qX (r ▸ a));have L:(bO D.l keep k).set k (gX x.f (keep.getD k 0))=bO D.l keep (k+1):=qZK (by rw[N];exact I);dsimp only at m;rw[L]at m;exact m
 ·rw[<-s,List.map_set];apply xJ;intro j;rw[List.getElem?_set];by_cases e:k=j
  ·subst e;have J:=(qO.1 d).1;rw[qV rfl,qV (by simpa using J),qv,d];show some (x.b::v.ownBlock.toList)=some (x.b::x.v.ownBlock.toList);rw[r]
  ·rw[qZ e]
def qZY(w:World)(base g mb:Nat)(E:List Ent)(D:jL)(e:Ending)(w':World):Prop :=
 ∃E',e=.returned (.tuple #[])/\PAt w' base g mb (.pointer none) E' [] D/\E'.map Ent.blocks=E.map Ent.blocks/\jP (g::FB E) w w'
theorem qZU(S:Value)(keep:List Int)(h:PAt w base g mb vF E K D)(J:yo D)(j:kN w S keep)(hV:keep≠[]->∀b,S.ownBlock=some b->b ∉ FB E):
  Calls prog 51 #[ptr g,S] w (qZY w base g mb E (uc D keep)):=by
 have ad:=qQ (CH h J.many);have ab:=h.low;obtain⟨A,off,X,rfl,aa,-⟩:=j.cell;have av:keep.length<=9223372036854775807:=by unfold maxLen at aa;omega
 have U:=qQ h;have aj:=qQ J;have HI:=qQ j;have HV:=qQ hV
 have HM:=qQ (show ∀f∈D.l,f.name.size<=maxLen from fun f hf=>by
  have:=h.names f hf;unfold vY at this;simp only[Bool.and_eq_true,decide_eq_true_eq]at this;unfold maxLen;omega)
 have HL:=qQ ab;have ax:=J.many;clear h J j hV ab aa;go_enter func51,ntmps51;go_wp2_with fail;refine ad.out.mono ?_;rintro e w1⟨vN,rfl,o,ac,L⟩
 have Z:∀b,vN.ownBlock=some b->b ∉ FB E:=fun b hb hm=>by
  have h1:=ac b hb;have h2:=(HL.out b (yQ.2 (qY (qY (qY (ow.1 hm)))))).2;omega
 obtain⟨T,ay,Y,rfl,-,-⟩:=o.cell
 have af:sU w base g mb vF E K D keep (.slice T (D.l.map jO.name).length Y) (.slice A keep.length X) 0 w1 :=
  ⟨E,by rw[qZZ];exact U.out.xC L (fun _ _=>by simp),rfl,L.more (fun x d=>by cases d),o,HI.out.xC L (fun _ _=>by simp)⟩
 have ai:=qQ Z;have F:=qQ af;clear o ac L Z af ad;rw[qq]at F ⊢;go_wp2;go_loopw [10] (fun i wr=>∃k:Nat,k<=D.l.length/\i=.int .i64 k/\sU w base g mb vF E K D keep (.slice T D.l.length Y) (.slice A keep.length X) k wr) (fun i _=>D.l.length-(intOf i).toNat)
 case atStart=>exact⟨0,qI _,rfl,F.out⟩
 case round =>
  obtain⟨k,hk,rfl,hF⟩:=hrel;have H:=qQ hF;obtain⟨E',a,I,P,o,j⟩:=hF;by_cases al:k<D.l.length
  ·obtain⟨f,r⟩:=Xj al;have s:(bO D.l keep k)[k]? = some f:=(by rw[qZV];exact r);rw[show bO D.l keep k=_ from a.xN,qv]at s
   obtain⟨x,d,z⟩:∃x,E'[k]? = some x/\x.f=f:=by
    cases hh:E'[k]? with
    | none=>rw[hh]at s;cases s
    | some x=>rw[hh]at s;exact⟨x,rfl,by simpa using s⟩
   have hX:=a.xM x (qN d);have Q:=aj.out.xq f (qN r);have ae:=HM.out f (qN r);have aw:=a.map.look (m:=f.name) ae (b:=x.b) (qP.2 ⟨x,qN d,by unfold Ent.nb;rw[z]⟩);obtain⟨c0,c1,c2,V,N,O,W⟩:=a.cells;obtain⟨A2,o1,ao,ag,-,ah⟩:=o.cell;obtain⟨hA,-,-⟩:=Value.slice.inj ag;subst hA;clear ag;obtain⟨b,rfl,au⟩:=ah k f.name (by rw[qv,r];rfl);have v:=qQ (qXi hX (keep.getD k 0) (by rw[z];exact Q.1) (by rw[z];exact Q.2));have u:=qQ (fun C e (q:Qu base x wr (gX x.f (keep.getD k 0)) e C)=>H.out.next U.out ai.out HV.out a I r d z q);have l1:(k:Int)<(D.l.length:Int):=by omega
   have ak:(k<keep.length/\∃(B R:Nat) (y:Int),A=some ⟨B,R,none⟩/\wr.cell? ⟨B,R+k,none⟩=some (.int .i64 y)/\keep.getD k 0=y)∨(keep.length<=k/\keep.getD k 0=0):=by
    rcases qd k keep.length with c|c
    ·refine qX ⟨c, ?_⟩;rcases j with⟨e,_⟩|⟨B,an,aq,e,_,_,_,hc⟩
     ·rw[e]at c;exact absurd c (Nat.not_lt_zero k)
     ·refine⟨B,an,keep[k],(Value.slice.inj e).1,hc k _ (qE c), ?_⟩;rw[qj,qE c];rfl
    ·exact qY ⟨c,by rw[qj,xX c];rfl⟩
   clear s hX Q ae a I P o j ah H r d z c0 c1 V N O W F;rcases ak with⟨q1,B,R,y,rfl,q2,M⟩|⟨q1,M⟩
   all_goals
    rw[M]at v u;have H3:=qQ M;clear M
   ·have q4:(k:Int)<(keep.length:Int):=(by omega);go_wp2_with fail;refine v.out.mono ?_;rintro e C q;have t:=qQ (u.out C e q);obtain⟨v2,rfl,_⟩:=q;clear v u;go_wp2;go_roundw
    case rel=>exact⟨k+1,by omega,by go_num,t.out⟩
    case measure=>simp[intOf];omega
   ·have q4:decide ((k:Int)<(keep.length:Int))=false:=qA (by omega);go_wp2_with fail;refine v.out.mono ?_;rintro e C q;have t:=qQ (u.out C e q);obtain⟨v2,rfl,_⟩:=q;clear v u;go_wp2;go_roundw
    case rel=>exact⟨k+1,by omega,by go_num,t.out⟩
    case measure=>simp[intOf];omega
  ·obtain rfl:k=D.l.length:=(by omega);rw[qZJ]at a;obtain⟨c0,c1,c2,V,N,O,W⟩:=a.cells;have f3:=a.xE.frozen 3;have f6:=a.xE.frozen 6;have HP:=qQ ((a.z7 true).jZ []);have ap:=((a.z7 true).cells).2.2.2.2.2.2;have ar:=(a.z7 true).xE.frozen 6;have t:=qQ I;have HT:=qQ P;clear o j P I a c0 c1 c2 N O H F;go_wp2;go_end0;refine⟨E',rfl,HP.out,t.out, ?_⟩;have am:∀x∈FB E,x∈g::FB E∨w.1.size<=x:=fun x d=>qX (qF _ d)
   exact((HT.out.more am).setCell (p:=⟨g,3,none⟩) (qX (by simp)) _).setCell (p:=⟨g,6,none⟩) (qX (by simp)) _
end
theorem qZG(D:jL)(keep:List Int)(h:D.l.length<=400):uc D (keep.take 400)=uc D keep:=by
 unfold uc
 have e:bP D.l (keep.take 400)=bP D.l keep:=by
  unfold bP;apply xJ;intro i;rw[List.getElem?_mapIdx,List.getElem?_mapIdx];rcases qd i D.l.length with c|c
  ·have:(keep.take 400).getD i 0=keep.getD i 0:=by
    rw[qj,qj,List.getElem?_take,qV (by omega)]
   rw[this]
  ·rw[xX c];rfl
 rw[e]
theorem fN.ints{w:World}{base:Nat}{v:Value}{l:List Int}{K:List Nat}(h:fN w base v l K):kN w v l/\(l≠[]->∀b,v.ownBlock=some b->b∈K):=by
 rcases h with⟨rfl,rfl,a,c,rfl⟩|⟨h,rfl⟩
 ·exact⟨qX ⟨rfl,a,c,rfl⟩,fun h=>absurd rfl h⟩
 ·exact⟨(ph.jC h).xH,fun _ b d=>by simp[d]⟩
section
variable {w:World}{base g mb:Nat}{vF:Value}{E:List Ent}{K:List Nat}{D:jL}
theorem PAt.zt(h:PAt w base g mb vF E K D):∀b∈K,b ∉ FB E:=fun b a d=>by
 obtain⟨x,f,c⟩:=ow.1 d;exact(h.xM x f).zS h.fail b c a
def qZW(w:World)(base g mb:Nat)(vF:Value)(E:List Ent)(K:List Nat)(D:jL)(e:Ending)(w':World):Prop :=
 e=.returned (.bool false)/\PAt w' base g mb vF E K (cZ D)/\jP K w w'
def qZA(w:World)(base g mb:Nat)(E:List Ent)(D:jL)(e:Ending)(w':World):Prop :=
 ∃E',e=.returned (.bool true)/\PAt w' base g mb (.pointer none) E' [] D/\E'.map Ent.blocks=E.map Ent.blocks/\jP (g::FB E) w w'
theorem sG(h:PAt w base g mb vF E K D)(f:yG D=true):Calls prog 188 #[ptr g] w (qZW w base g mb vF E K D):=by
 obtain⟨c0,c1,c2,l,o,q,J⟩:=h.cells;have t:=qQ h;rcases h.fail with⟨e,rfl,rfl⟩|⟨b,n,I,j,rfl,e,F,a,B,i,rfl⟩
 ·have v:=qQ (show cZ D=D by unfold cZ;rw[show D.fails-1=D.fails by omega]);clear h f e c0 c1 c2 l o q;go_enter func188,ntmps188;go_wp2;go_ret;exact⟨rfl,by rw[v.out];exact t.out,jP.refl _ _⟩
 ·have H:n≠0:=fun A=>by
   unfold yG at f;rw[e,A]at f;simp at f
  obtain⟨m,rfl⟩:∃m,n=m+1:=⟨n-1,by omega⟩
  have L:w.cell? ⟨b,0,none⟩=some (.int .i64 ((m:Int)+1)):=a.cell 0;have M:=a.frozen 0;have d:∀u,jP [b] w (w.setCell ⟨b,0,none⟩ u):=fun u=>(jP.refl _ w).setCell (p:=⟨b,0,none⟩) (qX (qH.2 rfl)) u
  have r:g≠b:=h.xE.xe a (by decide)
  have s:PAt (w.setCell ⟨b,0,none⟩ (.int .i64 (m:Nat))) base g mb (ptr b) E (b::j) (cZ D):=by
   refine h.zV (G:=[b]) (D':=cZ D) rfl (h.xE.xC (d _) (by simpa using r)) (d _) (fun x c=>qY (by rw[qH.1 c];simp)) (qY ⟨b,m,I,j,rfl, ?_,by omega,a.put 0 _,B,i.xC (d _) (fun x c C=>?_),rfl⟩)
   ·show D.fails-1=m+1;omega
   ·rw[qH.1 C]at c;exact i.ne a (by decide) c
  have y:=qQ s;have z:=qQ (d (.int .i64 (m:Nat)));have N:(0:Int)<(m:Int)+1:=by omega
  have O:(m:Int)+1<=9223372036854775807:=by omega
  have P:(m:Int)+1-1=(m:Int):=by omega
  clear h f e c0 c1 c2 l o q s d a i F H r;go_enter func188,ntmps188;go_wp2;go_ret;exact⟨rfl,y.out,z.out.more (fun x c=>qX (by rw[qH.1 c];simp))⟩
theorem sW(h:PAt w base g mb vF E K D)(i:yo D)(a:yG D=false):Calls prog 188 #[ptr g] w (qZA w base g mb E (uc D D.keep)):=by
 obtain⟨c0,c1,c2,u,v,y,I⟩:=h.cells;rcases h.fail with⟨e,rfl,rfl⟩|⟨b,n,q,H,rfl,e,B,d,z,p,rfl⟩
 ·unfold yG at a;rw[e]at a;simp at a
 ·obtain rfl:n=0:=by
   unfold yG at a;simp at a;omega
  have c:=p.ints;have L:w.cell? ⟨b,0,none⟩=some (.int .i64 0):=d.cell 0;have M:w.cell? ⟨b,1,none⟩=some q:=d.cell 1;have f:=qZU q (D.keep.take 400) h i c.1 (fun C x F=>h.zt x (qF _ (c.2 C x F)));rw[qZG D D.keep i.many]at f;have j:=qQ f;obtain⟨A,off,J,rfl,-⟩:=c.1.cell;generalize (D.keep.take 400).length=N at*;clear h a e c0 c1 c2 u v y d p B f i c z;go_enter func188,ntmps188;go_wp2_with fail;refine j.out.mono ?_;rintro e O⟨E',rfl,l,m,o⟩;have r:=qQ l;have s:=qQ m;have t:=qQ o;clear l m o j;go_wp2;go_ret;exact⟨E',rfl,r.out,s.out,t.out⟩
end
section
variable {w w1 w':World}{base g mb:Nat}{vF:Value}{E E':List Ent}{K:List Nat}{D D':jL}
theorem qZB(h:E'.map Ent.blocks=E.map Ent.blocks):∀x∈vJ g mb E' [],x∈vJ g mb E K:=by
 intro x a;rcases yQ.1 a with e|e|e|e
 ·exact yQ.2 (qX e)
 ·exact yQ.2 (qY (qX e))
 ·cases e
 ·refine yQ.2 (qY (qY (qY ?_)));have:x∈FB E':=ow.2 e;rw[CI h]at this;exact ow.1 this
theorem CL: g∈vJ g mb E K:=yQ.2 (qX rfl)
theorem Qg: mb∈vJ g mb E K:=yQ.2 (qY (qX rfl))
theorem fP{b:Nat}(h:b∈K):b∈vJ g mb E K:=yQ.2 (qY (qY (qX h)))
theorem cd{b:Nat}{x:Ent}(a:x∈E)(h:b∈x.blocks):b∈vJ g mb E K:=yQ.2 (qY (qY (qY ⟨x,a,h⟩)))
theorem qZC: ∀x∈g::FB E,x∈vJ g mb E K:=by
 intro x a;rcases qM.1 a with rfl|a
 ·exact CL
 ·obtain⟨y,c,b⟩:=ow.1 a;exact cd c b
theorem cG(h:PAt w base g mb vF E K D)(v:Value):yq bA base g (vJ g mb E K) w v D (.returned v) w:=⟨_,rfl,h.at,fun _ a=>qX a,jP.refl _ _⟩
theorem mI(h:PAt w' base g mb vF E K D')(a:jP (vJ g mb E K) w w')(v:Value):yq bA base g (vJ g mb E K) w v D' (.returned v) w':=⟨_,rfl,h.at,fun _ b=>qX b,a⟩
theorem sA{d:Value}(h:PAt w' base g mb d E' [] D')(b:E'.map Ent.blocks=E.map Ent.blocks)(c:jP (g::FB E) w w')(v:Value):yq bA base g (vJ g mb E K) w v D' (.returned v) w' :=
 ⟨_,rfl,h.at,fun x a=>qX (qZB b x a),c.more (fun x a=>qX (qZC x a))⟩
theorem yq.after{F G:List Nat}{v:Value}{e:Ending}(h:yq bA base g G w1 v D' e w')(b:jP F w w1)(a:∀x∈G,x∈F∨w.1.size<=x):yq bA base g F w v D' e w':=by
 obtain⟨c,d,f,i,j⟩:=h;refine⟨c,d,f,fun x l=>?_,b.trans j a⟩;rcases i x l with h|h
 ·exact a x h
 ·exact qY (by have:=b.size;omega)
theorem CM(h:PAt w base g mb vF E K D):Calls prog 151 #[ptr g] w (X0 (.bool (!D.down)) w):=by
 obtain⟨c0,c1,c2,b,c,d,f⟩:=h.cells;have i:=qQ (nz c0);cases a:D.down
 all_goals
  rw[a]at b;clear a h c1 c2 c d f c0;go_enter func151,ntmps151;go_wp2_with fail;refine X5 i.out ?_;go_wp2;go_ret;exact⟨rfl,rfl⟩
theorem qZD(h:PAt w base g mb vF E K D):Calls prog 75 #[ptr g] w (X0 (.int .i64 (D.xB:Nat)) w):=by
 obtain⟨c0,c1,c2,a,b,f,c⟩:=h.cells;have d:=qQ (nz c0);clear h c1 c2 a b c c0;go_enter func75,ntmps75;go_wp2_with fail;refine X5 d.out ?_;go_wp2;go_ret;exact⟨rfl,rfl⟩
theorem qZE(h:PAt w base g mb vF E K D)(i:yo D)(n:Tw)(r:n.size<=maxLen):Calls prog 129 #[ptr g,n] w (X0 (.tuple #[.int .i64 ((j9 D n).1:Nat),err (j9 D n).2]) w):=by
 unfold j9;cases a:D.down
 ·by_cases d:jx D.l n<D.l.length
  ·obtain⟨x,p,o,q⟩:=nx h d;rw[o];dsimp only[Bool.false_eq_true,if_false];have c:=qQ (ot h a p (by rw[q];exact r));rw[q]at c;have j:=h.xM x (qN p);obtain⟨t,_,_,_⟩:=j.cells;obtain⟨A,y,s,u,v,_⟩:=mE j.2.2;rw[s]at t;have z:=(i.xq x.f (qN o)).2;clear h i p o q j s d a u v;generalize x.f.data.size=m at*;generalize x.b=b at*;go_enter func129,ntmps129;go_wp2_with fail;refine X5 c.out ?_;go_wp2;go_ret2;exact⟨rfl,rfl⟩
  ·have c:=qQ (oi h a d r);rw[VD d];clear h i d a;go_enter func129,ntmps129;go_wp2_with fail;refine X5 c.out ?_;go_wp2;go_ret2;exact⟨rfl,rfl⟩
 ·have c:=qQ (oo h a n);clear h i a;go_enter func129,ntmps129;go_wp2_with fail;refine X5 c.out ?_;go_wp2;go_ret2;exact⟨rfl,rfl⟩
end
end
section
open Go.RowKit Go.Maps
def uM(E:List Ent)(left:Lit->Bool):Nat:=(E.map (fun x=>if left (y8 x.f.name) then 0 else x.f.data.size)).sum
theorem sB(x:Ent)(E:List Ent)(left:Lit->Bool):uM (x::E) left=(if left (y8 x.f.name) then 0 else x.f.data.size)+uM E left:=by unfold uM;rw[List.map_cons,List.sum_cons]
theorem qZF{E:List Ent}{left:Lit->Bool}(h:∀x∈E,left (y8 x.f.name)=true):uM E left=0:=by
 induction E with
 | nil=>rfl
 | cons x E b =>
   rw[sB,qV (h x (by simp)),b (fun y a=>h y (by simp[a]))]
theorem qZH{E:List Ent}{left:Lit->Bool}(h:∀b,left b=false):uM E left=j4 (E.map Ent.f):=by
 induction E with
 | nil=>rfl
 | cons x E a =>
   rw[sB,h,a,List.map_cons,oV];rfl
theorem qZI{E:List Ent}{a b:Lit->Bool}(h:∀x∈E,a (y8 x.f.name)=b (y8 x.f.name)):uM E a=uM E b:=by
 unfold uM;congr 1;apply List.map_congr_left;intro x c;rw[h x c]
theorem CN(E:List Ent)(left:Lit->Bool):uM E left<=j4 (E.map Ent.f):=by
 induction E with
 | nil=>exact qK _
 | cons x E a =>
   rw[sB,List.map_cons,oV];have:(if left (y8 x.f.name) then 0 else x.f.data.size)<=x.f.data.size:=(by split<;>omega);omega
theorem qZL{E:List Ent}(i:E.Pairwise (fun x y=>x.f.name≠y.f.name)){left:Lit->Bool}{x:Ent}(a:x∈E)(d:left (y8 x.f.name)=true):uM E (fun z=>left z&&!z.sameKey (y8 x.f.name))=uM E left+x.f.data.size:=by
 induction E with
 | nil=>cases a
 | cons y E o =>
   obtain⟨b,c⟩:=xU.1 i;rw[sB,sB];have l:(y8 x.f.name).sameKey (y8 x.f.name)=true:=WideAt.sameKey_self (BA _);rcases qM.1 a with rfl|a
   ·rw[d,l]
    have j:uM E (fun z=>left z&&!z.sameKey (y8 x.f.name))=uM E left:=qZI (fun y m=>by
     rw[sameKey_ne (fun e=>b y m (od e).symm)];simp)
    rw[j];show x.f.data.size+uM E left=0+uM E left+x.f.data.size;omega
   ·rw[o c a,sameKey_ne (fun e=>b x a (od e))];simp only[Bool.not_false,Bool.and_true];omega
def Qb: Option Nat->Value
 | none=>.pointer none
 | some b=>.pointer (some ⟨b,0,none⟩)
theorem qZM(a:Value)(c:Lit)(h:keyOf prog 9 a=some c):∃x:List UInt8,a=encStr x:=by
 obtain⟨x,b,_⟩:=Maps.keyOf_str Tryz.underlying9 h;exact⟨x,b⟩
theorem qZN(v:Value)(y:DataW Unit × List MemPlace)(h:gC v=some y):∃c,v=Qb c:=by
 rcases Q6 h with⟨rfl,_⟩|⟨b,rfl,_⟩
 ·exact⟨none,rfl⟩
 ·exact⟨some b,rfl⟩
section
variable {w:World}{base g mb:Nat}{vF:Value}{E:List Ent}{K:List Nat}{D:jL}
theorem qZO{o:DataW Unit}(hi:fM o (E.map Ent.nb)){x:List UInt8}{l:Lit}(F:keyOf prog 9 (encStr x)=some l){c:Option Nat}{y:DataW Unit × List MemPlace}(C:gC (Qb c)=some y)(j:∀J,o.atKey l J=y.1):
  ∃z∈E,l=y8 z.f.name/\c=some z.b:=by
 obtain⟨m,_,rfl,_⟩:=Maps.keyOf_str Tryz.underlying9 F;have s:=Maps.has_true_of_atKey j;have e:(Lit.string m)=y8 ⟨m.toArray⟩:=by unfold y8;simp
 rw[e]at s j ⊢;obtain⟨p,u,H⟩:=hi.mem s;obtain⟨z,I,rfl⟩:=qP.1 u;have t:z.f.name=⟨m.toArray⟩:=H;refine⟨z,I,by rw[t], ?_⟩;have A:=hi.yes _ u .nil;have r:=j .nil;rw[<-t]at r;have a:y.1=.lit (.int .i64 (z.b:Int)):=r.symm.trans A;rcases Q6 C with⟨d,i⟩|⟨b,d,i⟩
 ·rw[i]at a;simp only[DataW.lit.injEq,Lit.int.injEq,true_and]at a;omega
 ·rw[i]at a;simp only[DataW.lit.injEq,Lit.int.injEq,true_and]at a;have B:b=z.b:=by omega
  cases c with
  | none=>cases (show Value.pointer none=.pointer (some ⟨b,0,none⟩) from d)
  | some v =>
    have q:Value.pointer (some ⟨v,0,none⟩)=.pointer (some ⟨b,0,none⟩):=d;simp only[Value.pointer.injEq,Option.some.injEq,Addr.mk.injEq,and_true]at q;rw[q,B]
def Jp(w:World)(D:jL)(e:Ending)(w':World):Prop:=e=.returned (.int .i64 ((D.cap:Int)-(j4 D.l:Nat)))/\jP [] w w'
theorem CO(h:PAt w base g mb vF E K D)(p:yo D):Calls prog 177 #[ptr g] w (Jp w D):=by
 obtain⟨c0,c1,c2,c3,c4,c5,c6⟩:=h.cells;have hn:=qQ (nz c0);obtain⟨n,d,P,o⟩:=h.map
 have Q:E.Pairwise (fun x y=>x.f.name≠y.f.name):=by
  have:=BW h.xI;rw[h.xN]at this;exact(List.pairwise_map (f:=Ent.f) (R:=fun x y=>x.name≠y.name)).1 this
 have S:j4 (E.map Ent.f)<=1048576:=by rw[<-h.xN];exact p.used
 have H:=p.cap;have M:=h.xN;have Y:=qQ h.xM;have Z:=qQ o;have ab:=qQ Q;have j:=qQ S;have aa:=qQ M;have X:=qQ H;have ad:=qQ (qZF (E:=E) (left:=Maps.has d) (fun x hx=>o.has (qP.2 ⟨x,hx,rfl⟩)));have ar:=P.lt;clear h p o Q S H M c0 c3 c4 c5 c6;go_enter func177,ntmps177;go_wp2_with fail;refine X5 hn.out ?_
 go_wp2_with (first
  | (at_range;refine wpList_range_own _ rfl _ 80 rfl 9 149 nO Tryz.underlying80 gC mb n d rfl P ?_;intro w0 al ag ap)
  | go_in)
 go_frame
 go_loopw [3] (fun v wr=>∃(left:Lit->Bool) (l:Nat),wr.ranges prog 9 gC mb w.1.size n d left l/\jP [] w wr/\v=.int .i64 ((D.cap:Int)-(uM E left:Nat)))
  (fun _ wr=>wr.rangeLeft mb w.1.size)
 case atStart=>exact⟨_,_,al,(jP.refl [] w).grown ag (fun k a=>by cases a),by rw[ad.out];simp⟩
 case round =>
  obtain⟨left,l,i,C,rfl⟩:=hrel;have B:=CN E left;have b0:=j.out;have b2:-1048576<=(D.cap:Int)-(uM E left:Nat):=by omega
  have b3:(D.cap:Int)-(uM E left:Nat)<=1048576:=by have:=X.out;omega
  have u:=qQ C;have HB:=qQ B;clear C B b0
  go_wp2_with (first
   | (at_next;refine wpList_next_ranges _ rfl _ rfl 9 nO gC encStr Qb qZM qZN mb w.1.size n d left l rfl i ?_ ?_)
   | go_in)
  ·intro _ L;have I:=qQ (qZH (E:=E) L);rw[<-aa.out]at I;generalize uM E left=s at*;clear i L;go_wp2;go_ret;exact⟨by rw[I.out];rfl,u.out⟩
  ·intro x c kl y1 y2 w1 ao V O U F q N J am af;obtain⟨z,t,rfl,rfl⟩:=qZO (y:=(y1,y2)) Z.out V U F;have r:jP [] w w1:=(u.out).grown J (fun k a=>by injection a with a;exact qY (Nat.le_of_eq a));have m:=(Y.out z t).xC r (fun b _=>by simp);obtain⟨d0,_,_,_⟩:=m.cells;obtain⟨A,an,T,-,-,-⟩:=mE m.2.2;rw[T]at d0;have hst:=qZL ab.out t O;have ah:=CN E (fun W=>left W&&!W.sameKey (y8 z.f.name));have aq:(z.f.data.size:Int)<=1048576:=(by have:=j.out;omega);have ak:=qQ (q.left_eq);have aj:=qQ (i.left_eq);have ae:=qQ r;have ac:=qQ q;have HS:=qQ hst;have b4:-1048576<=(D.cap:Int)-(uM E left:Nat)-(z.f.data.size:Nat):=(by have:=j.out;omega);clear F q J am i m T hst ah V O U r t;have ai:=qQ N;clear N;generalize z.f.data.size=zs at*;generalize uM E left=s at*;generalize z.b=zb at*;dsimp only[Qb]at af ⊢;go_wp2;go_roundw
   case rel=>exact⟨_,_,ac.out,ae.out,by rw[HS.out];exact F5 (by omega)⟩
   case measure=>rw[ak.out,aj.out];exact ai.out
end
end
section
open Go.RowKit
theorem CP{l:List jO}{k:Nat}{f:jO}(h:l[k]? = some f)(g:jO->jO):kq l k g=l.set k (g f):=by
 apply xJ;intro j;rw[VC,List.getElem?_set];have b:=(qO.1 h).1;by_cases e:j=k
 ·subst e;rw[qV rfl,qV rfl,qV b,h];rfl
 ·rw[qZ e,qZ (fun a=>e a.symm)]
section
variable {w w1 w':World}{base g mb:Nat}{vF:Value}{E E':List Ent}{K G:List Nat}{D D':jL}
theorem qZP(h:PAt w base g mb vF E K D){k:Nat}{x:Ent}(o:E[k]? = some x)(x':Ent)(a:x'.b=x.b)(t:x'.f.name=x.f.name)(p:jP G w w')(m:∀b∈G,b∈x.blocks)(s:vS w' base x')
  (q:∀b,x'.v.ownBlock=some b->x.v.ownBlock=some b∨w.1.size<=b) (v:Value) (r:D'={ D with l:=D.l.set k x'.f }):yq bA base g (vJ g mb E K) w v D' (.returned v) w':=by
 subst r;have d:=qN o;refine⟨_,rfl,(h.zM o x' a t p m s q).at,fun y u=>?_,p.more (fun b a=>qX (cd d (m b a)))⟩;rcases yQ.1 u with e|e|e|⟨z,j,i⟩
 ·exact qX (yQ.2 (qX e))
 ·exact qX (yQ.2 (qY (qX e)))
 ·exact qX (fP e)
 ·rcases List.mem_or_eq_of_mem_set j with j|rfl
  ·exact qX (cd j i)
  ·simp only[Ent.blocks,List.mem_cons,Option.mem_toList]at i;rcases i with e|e
   ·exact qX (cd d (by rw[e,a];simp[Ent.blocks]))
   ·rcases q y e with c|c
    ·exact qX (cd d (by simp[Ent.blocks,c]))
    ·exact qY c
theorem qZR{D E:jL}(h:yG D=true):y9 D E=(0, { E with fails:=D.fails-1 }):=by unfold y9;rw[qV h]
theorem qZS{D E:jL}(h:yG D=false):y9 D E=(61,uc D D.keep):=by unfold y9;rw[h];rfl
theorem qZT{D:jL}{n:Tw}(a:D.down=false)(b:jx D.l n<D.l.length):kJ D n=y9 D { D with l:=kq D.l (jx D.l n) (fun f=>{ f with synced:=f.data.size }) }:=by unfold kJ;rw[a,qV b];rfl
theorem qZ0{D:jL}{n:Tw}(a:D.down=false)(b:¬jx D.l n<D.l.length):kJ D n=(4,D):=by unfold kJ;rw[a,qZ b];rfl
theorem qZ1{D:jL}{n:Tw}(a:D.down=true):kJ D n=(61,D):=by unfold kJ;rw[a];rfl
theorem qZ2(h:PAt w base g mb vF E K D)(o:yo D)(n:Tw)(I:n.size<=maxLen):Calls prog 160 #[ptr g,n] w (yq bA base g (vJ g mb E K) w (err (kJ D n).1) (kJ D n).2):=by
 have C:=qQ h;cases a:D.down
 ·by_cases d:jx D.l n<D.l.length
  ·obtain⟨x,u,t,y⟩:=nx h d;have i:=qQ (ot h a u (by rw[y];exact I));rw[y]at i;rw[qZT a d];generalize jx D.l n=k at*;cases m:yG D
   ·have r:=qQ (sW h o m);rw[qZS m];generalize uc D D.keep=S at*;clear h o u t y d a m;go_enter func160,ntmps160;go_wp2_with fail;refine X5 i.out ?_;go_wp2_with fail;refine r.out.mono ?_;rintro e R⟨E',rfl,j,q,H⟩;have z:=qQ j;have B:=qQ q;have M:=qQ H;clear j q H r;go_wp2;go_ret;exact sA z.out B.out M.out _
   ·have r:=qQ (sG h m);rw[qZR m];have L:=(o.xq x.f (qN t)).2;have F:=qQ u;have N:=qQ t;have P:=qQ L;clear h o u t y d a m L;go_enter func160,ntmps160;go_wp2_with fail;refine X5 i.out ?_;go_wp2_with fail;refine r.out.mono ?_;rintro e R⟨rfl,j,q⟩;have s:=j.xM x (qN F.out);obtain⟨Q,U,V,W⟩:=s.cells;obtain⟨A,T,J,-,-,-⟩:=mE s.2.2;rw[J]at Q;have X:=P.out;have O:=qQ (s.zA x.f.data.size);have z:=qQ j;have B:=qQ q;clear j q r s J;go_wp2;go_ret;refine yq.after (qZP (G:=[x.b]) z.out F.out ⟨⟨x.f.name,x.f.data,x.f.data.size⟩,x.b,x.v⟩ rfl rfl ((jP.refl _ _).setCell (p:=⟨x.b,1,none⟩) (qX (qH.2 rfl)) _) (fun b c=>by rw[qH.1 c];simp[Ent.blocks]) O.out (fun b c=>qX c) _ ?_) (B.out.more (fun b c=>qX (fP c))) (fun b c=>qX c);show _=({ cZ D with l:=D.l.set k _ }:jL)
    rw[CP N.out];rfl
  ·have i:=qQ (oi h a d I);rw[qZ0 a d];clear h o d a;go_enter func160,ntmps160;go_wp2_with fail;refine X5 i.out ?_;go_wp2;go_ret;exact cG C.out _
 ·have i:=qQ (oo h a n);rw[qZ1 a];clear h o a;go_enter func160,ntmps160;go_wp2_with fail;refine X5 i.out ?_;go_wp2;go_ret;exact cG C.out _
end
section
variable {w w1 w':World}{base g mb:Nat}{vF:Value}{E E':List Ent}{K G:List Nat}{D D':jL}
theorem qZ3{n s:Tw}(a:D.down=true):jr D n s=(61,D):=by unfold jr;rw[a];rfl
theorem qZ4{n s:Tw}(a:D.down=false)(b:¬jx D.l n<D.l.length):jr D n s=(4,D):=by unfold jr;rw[a,qZ b];rfl
theorem qZ5{n s:Tw}(a:D.down=false)(b:jx D.l n<D.l.length)(c:D.cap<j4 D.l+s.size):jr D n s=(60,D):=by unfold jr;rw[a,qV b,qV c];rfl
theorem qZ6{n s:Tw}(a:D.down=false)(b:jx D.l n<D.l.length)(d:¬D.cap<j4 D.l+s.size)(c:yG D=true):jr D n s=(0,cZ (uO D n s)):=by unfold jr;rw[a,qV b,qZ d,qV c];rfl
theorem qZ7{n s:Tw}(a:D.down=false)(b:jx D.l n<D.l.length)(d:¬D.cap<j4 D.l+s.size)(c:yG D=false):jr D n s=(61,uc (uO D n s) D.keep):=by unfold jr;rw[a,qV b,qZ d,c];rfl
theorem yo.app{D:jL}(h:yo D){k:Nat}{f:jO}(c:D.l[k]? = some f)(s:Tw)(d:j4 D.l+s.size<=D.cap):yo { D with l:=kq D.l k (fun f=>{ f with data:=f.data++s }) }:=by
 have b:tU { D with fails:=0 }:=⟨h.xq,h.many,h.used,h.cap,qI _⟩
 have a:=b.app (k:=k) (f:=f) c s d;exact⟨a.xq,a.many,a.used,a.cap⟩
theorem qZ8{k:Nat}{x:Ent}(j:E[k]? = some x){x':Ent}(i:x'.b=x.b){z:Nat}(l:∀b,x'.v.ownBlock=some b->x.v.ownBlock=some b∨z<=b):∀y∈vJ g mb (E.set k x') K,y∈vJ g mb E K∨z<=y:=by
 have f:=qN j;intro y m;rcases yQ.1 m with e|e|e|⟨z,d,a⟩
 ·exact qX (yQ.2 (qX e))
 ·exact qX (yQ.2 (qY (qX e)))
 ·exact qX (fP e)
 ·rcases List.mem_or_eq_of_mem_set d with d|rfl
  ·exact qX (cd d a)
  ·simp only[Ent.blocks,List.mem_cons,Option.mem_toList]at a;rcases a with e|e
   ·exact qX (cd f (by rw[e,i];simp[Ent.blocks]))
   ·rcases l y e with c|c
    ·exact qX (cd f (by simp[Ent.blocks,c]))
    ·exact qY c
theorem qZ9(h:PAt w base g mb vF E K D){k:Nat}{x:Ent}(o:E[k]? = some x){a:Value}{s:Tw}(i:bh w1 base a (x.f.data++s))(j:w.grownBy w1 x.v.ownBlock)(q:a.ownBlock=x.v.ownBlock∨a.ownBlock=some w.1.size):
  vS (w1.setCell ⟨x.b,0,none⟩ a) base ⟨⟨x.f.name,x.f.data++s,x.f.synced⟩,x.b,a⟩/\jP x.blocks w (w1.setCell ⟨x.b,0,none⟩ a)/\w1.cell? ⟨x.b,0,none⟩=some x.v/\w1.frozen? ⟨x.b,0,none⟩=false:=by
 have c:=h.xM x (qN o);have m:jP x.blocks w w1:=(jP.refl _ w).grown j (fun k l=>qX (by simp[Ent.blocks,l]))
 have d:jN w1 x.b 215 #[x.v,x.f.synced]:=by
  refine(j.block x.b c.1.lt (fun e=>?_)).trans c.1;exact vO c.2.2 c.1 (by decide) e.symm
 exact⟨⟨d.put 0 a,c.2.1,vz i (vO i d (by decide)) _⟩,m.setCell (p:=⟨x.b,0,none⟩) (qX (by simp[Ent.blocks])) _,d.cell 0,d.frozen 0⟩
theorem qZq(h:PAt w base g mb vF E K D)(d:yo D)(n s:Tw)(hn:n.size<=maxLen)(hs:s.size<=1099511627776):Calls prog 203 #[ptr g,n,s] w (yq bA base g (vJ g mb E K) w (err (jr D n s).1) (jr D n s).2):=by
 have L:=qQ h;cases a:D.down
 ·by_cases j:jx D.l n<D.l.length
  ·obtain⟨x,o,F,O⟩:=nx h j;have p:=qQ (ot h a o (by rw[O];exact hn));rw[O]at p;have z:=qQ (CO h d);by_cases I:D.cap<j4 D.l+s.size
   ·rw[qZ5 a j I];have q1:(D.cap:Int)-(j4 D.l:Nat)<(s.size:Int):=(by omega);have q2:=d.cap;have q3:=d.used;clear h d o F O j a I;unfold Jp at z;generalize j4 D.l=u at*;go_enter func203,ntmps203;go_wp2_with fail;refine X5 p.out ?_;go_wp2_with fail;refine KG z.out fun w2 q=>?_;have HT:=qQ q;clear q z;go_wp2;go_ret;exact mI (L.out.xC HT.out (fun _ _=>by simp)) (HT.out.more (fun x o=>by cases o)) _
   ·have q1:decide ((D.cap:Int)-(j4 D.l:Nat)<(s.size:Int))=false:=qA (by omega);have q2:=d.cap;have q3:=d.used;have al:s.size<=1048576:=(by omega);have ax:=qQ al;have V:=d.app F s (by omega);have ap:=(d.xq x.f (qN F)).2;have T:uO D n s={ D with l:=kq D.l (jx D.l n) (fun f=>{ f with data:=f.data++s }) }:=rfl;rw[<-T]at V;have ae:uO D n s={ D with l:=D.l.set (jx D.l n) ⟨x.f.name,x.f.data++s,x.f.synced⟩ }:=(by rw[T,CP F]);have ai:yG (uO D n s)=yG D:=rfl;have ak:(uO D n s).keep=D.keep:=rfl;have hA:=qZ6 (s:=s) a j I;have hB:=qZ7 (s:=s) a j I;have aw:=qQ V;have HA:=qQ hA;have HB:=qQ hB;have aa:=qQ ae;have B:=qQ o;have ay:=qQ ap;have HG:=qQ ai;have av:=qQ ak;clear h d o F O j a I al V hA hB T ae ap ai ak;unfold Jp at z;generalize jx D.l n=k at*;generalize j4 D.l=u at*;go_enter func203,ntmps203;go_wp2_with fail;refine X5 p.out ?_;go_wp2_with fail;refine KG z.out fun w2 q=>?_;have r:=L.out.xC q (fun _ _=>by simp);have N:=r.xM x (qN B.out);have af:base<=w2.1.size:=(by have:=r.gb;have:=r.xE.lt;omega);obtain⟨J,w3,S,U,aj,Y⟩:=qQu N.2.2 s (by have:=ay.out;have:=ax.out;omega) af 154;obtain⟨ag,X,aB,aC⟩:=qZ9 r B.out U aj Y;obtain⟨d0,d1,g0,g1⟩:=N.cells;obtain⟨A,az,hv,-,-,-⟩:=mE N.2.2;obtain⟨A',aA,ao,-,-,-⟩:=mE U
    have W:∀b,J.ownBlock=some b->x.v.ownBlock=some b∨w2.1.size<=b:=fun b i=>by
     rcases Y with c|c
     ·exact qX (c ▸ i)
     ·rw[c]at i;injection i with i;exact qY (Nat.le_of_eq i)
    have M:=r.zM B.out ⟨⟨x.f.name,x.f.data++s,x.f.synced⟩,x.b,J⟩ rfl rfl X (fun b i=>i) ag W;have hD:({ D with l:=D.l.set k ⟨x.f.name,x.f.data++s,x.f.synced⟩ }:jL)=uO D n s:=aa.out.symm;dsimp only at M;rw[hD]at M;have am:=qZ8 (g:=g) (mb:=mb) (K:=K) B.out (x':=⟨⟨x.f.name,x.f.data++s,x.f.synced⟩,x.b,J⟩) rfl W;have ad:jP (vJ g mb E K) w (w3.setCell ⟨x.b,0,none⟩ J):=(q.more (fun x o=>by cases o)).trans X (fun b i=>qX (cd (qN B.out) i));have an:∀y∈vJ g mb (E.set k ⟨⟨x.f.name,x.f.data++s,x.f.synced⟩,x.b,J⟩) K,y∈vJ g mb E K∨w.1.size<=y:=fun y Z=>(am y Z).imp id (fun c=>qR q.size c)
    have HP:=qQ M;have ac:=qQ ad;have ab:=qQ an;rw[hv]at S d0;have aq:(x.f.data++s).size=x.f.data.size+s.size:=qy;rw[aq]at ao;subst ao;clear r N af U aj Y ag X hv W M hD am ad an q z aq g1 d1 aa;have ar:=qQ S;clear S;go_wp2_with (first|(at_builtin;refine yC rfl _ _ rfl rfl rfl ar.out ?_)|fail);have m:yG D=true∨yG D=false:=(by cases yG D<;>simp);rcases m with m|m
    ·have t:=qQ (sG HP.out (HG.out.trans m));have Q:=qQ (HA.out m);clear m;go_wp2_with fail;refine t.out.mono ?_;rintro e w4⟨rfl,C,H⟩;have P:=qQ C;have R:=qQ H;clear C H t;go_wp2;go_ret;rw[Q.out];exact yq.after (mI P.out (R.out.more (fun y Z=>qX (fP Z))) _) ac.out ab.out
    ·have t:=qQ (sW HP.out aw.out (HG.out.trans m));have Q:=qQ (HB.out m);rw[av.out]at t;clear m;go_wp2_with fail;refine t.out.mono ?_;rintro e w4⟨E4,rfl,C,ah,H⟩;have P:=qQ C;have au:=qQ ah;have R:=qQ H;clear C ah H t;go_wp2;go_ret;rw[Q.out];exact yq.after (sA P.out au.out R.out _) ac.out ab.out
  ·have p:=qQ (oi h a j hn);rw[qZ4 a j];clear h d j a;go_enter func203,ntmps203;go_wp2_with fail;refine X5 p.out ?_;go_wp2;go_ret;exact cG L.out _
 ·have p:=qQ (oo h a n);rw[qZ3 a];clear h d a;go_enter func203,ntmps203;go_wp2_with fail;refine X5 p.out ?_;go_wp2;go_ret;exact cG L.out _
end
section
variable {w w1 w':World}{base g mb:Nat}{vF:Value}{E E':List Ent}{K G:List Nat}{D D':jL}
abbrev qZx(base g:Nat)(F:List Nat)(w:World)(r:Tw × Nat × jL):Ending->World->Prop:=yq bA base g F w (.tuple #[r.1,err r.2.1]) r.2.2
theorem qZz(h:PAt w base g mb vF E K D)(y:yo D)(ae:D.count<=1099511627776)(n:Tw)(a k:Int)(hn:n.size<=maxLen)(t:(Lit.int .i64 a).wf=true)(u:(Lit.int .i64 k).wf=true):Calls prog 130 #[ptr g,n,a,k] w (qZx base g (vJ g mb E K) w (kM D n a k)):=by
 have HH:=qQ h;have s:=qQ (CM h);cases d:D.down
 case true =>
  have j:=qQ (oo h d n);rw[Lj d];rw[d]at s;clear h y d t u;go_enter func130,ntmps130;go_wp2_with fail;refine X5 s.out ?_;go_wp2_with fail;refine X5 j.out ?_;go_wp2;go_ret2;exact cG HH.out _
 obtain⟨c0,c1,c2,L,c4,M,N⟩:=h.cells;have f4:=h.xE.frozen 4;have i:PAt (w.setCell ⟨g,4,none⟩ (.int .i64 ((D.count:Int)+1))) base g mb vF E K (tG D):=h.jW (D.count+1);have I:=qQ i;have J:=qQ (show jP (vJ g mb E K) w (w.setCell ⟨g,4,none⟩ (.int .i64 ((D.count:Int)+1))) from(jP.refl _ _).setCell (p:=⟨g,4,none⟩) (qX CL) _);rw[d]at s;by_cases r:jx D.l n<D.l.length
 case neg =>
  have j:=qQ (oi i d r hn);rw[Lv d r];clear h i y r d t u c0 c1 c2 L M N;go_enter func130,ntmps130;go_wp2_with fail;refine X5 s.out ?_;go_wp2_with fail;refine X5 j.out ?_;go_wp2;go_ret2;exact mI I.out J.out _
 obtain⟨x,F,v,H⟩:=nx h r;have j:=qQ (ot i d F (by rw[H];exact hn));rw[H]at j;have o:=i.xM x (qN F);have hz:=(y.xq x.f (qN v)).2;obtain⟨U,_,_,_⟩:=o.cells;have S:=bounds_i64 t;have T:=bounds_i64 u;by_cases C:a<0∨k<0∨(x.f.data.size:Int)<a∨(x.f.data.size:Int)-a<k
 ·rw[Ly d v C];obtain⟨A,B,hv,-,-,-⟩:=mE o.2.2;rw[hv]at U;have aa:a<0∨(0<=a/\k<0)∨(0<=a/\0<=k/\(x.f.data.size:Int)-a<k):=by omega
  clear h i y r d t u c0 c1 c2 L M N o hv F v H C;generalize x.f.data.size=z at*;generalize x.b=xb at*;rcases aa with q|⟨q1,q⟩|⟨q1,q2,q⟩
  case' inl =>
   have R:decide (a<0)=true:=qB q
  case' inr.inl =>
   have R:decide (a<0)=false:=qA (by omega);have V:decide (k<0)=true:=qB q
  case' inr.inr =>
   have R:decide (a<0)=false:=qA (by omega);have V:decide (k<0)=false:=qA (by omega);have X:decide ((z:Int)-a<k)=true:=qB q;have t4:-9223372036854775808<=(z:Int)-a:=(by omega);have t5:(z:Int)-a<=9223372036854775807:=by omega
  all_goals
   go_enter func130,ntmps130;go_wp2_with fail;refine X5 s.out ?_;go_wp2_with fail;refine X5 j.out ?_;go_wp2;go_ret2;exact mI I.out J.out _
 ·rw[Lu d v C];obtain⟨p,rfl⟩:∃p:Nat,a=p:=⟨a.toNat,by omega⟩
  obtain⟨m,rfl⟩:∃m:Nat,k=m:=⟨k.toNat,by omega⟩
  rw[qa,qa];have Q:p+m<=x.f.data.size:=by omega
  have R:decide ((p:Int)<0)=false:=qA (by omega);have V:decide ((m:Int)<0)=false:=qA (by omega);have X:decide ((x.f.data.size:Int)-(p:Int)<(m:Int))=false:=qA (by omega);have t4:(p:Int)+(m:Int)<=(x.f.data.size:Int):=by omega
  have t5:(x.f.data.size:Int)<=1048576:=by omega
  have t6:(0:Int)<=(p:Int):=by omega
  have t7:(p:Int)<=(p:Int)+(m:Int):=by omega
  have t8:((p:Int)+(m:Int)).toNat=p+m:=by omega
  have t9:p+m-p=m:=by omega
  rcases CC o.2.2 with⟨e,e2⟩|⟨b,B,e,n1,n2,ac,ad⟩
  ·obtain rfl:p=0:=(by omega);obtain rfl:m=0:=by omega
   have O:x.f.data.extract 0 (0+0)=ByteArray.empty:=by
    apply qi;rw[ByteArray.data_extract];apply Array.eq_empty_of_size_eq_zero;rw[Array.size_extract];omega
   rw[O];rw[e]at U;have Y:=fun W=>BD W none 0
   clear h i y r d t u c0 c1 c2 L M N o e F v H C O R V X t4 t5 t6 t7 t8 t9 S T Q;go_enter func130,ntmps130;go_wp2_with fail;refine X5 s.out ?_;go_wp2_with fail;refine X5 j.out ?_;go_wp2;go_ret2;exact mI I.out J.out _
  ·have P:=o.2.2;rw[e]at U P;unfold maxLen at n2;have af:(p:Int)+(m:Int)<=(B:Int):=(by omega);by_cases Z:m=0
   ·subst Z
    have O:x.f.data.extract p (p+0)=ByteArray.empty:=by
     apply qi;rw[ByteArray.data_extract];apply Array.eq_empty_of_size_eq_zero;rw[Array.size_extract];omega
    rw[O];have Y:=fun W A c=>BD W A c
    have ag:(p:Int)<=(B:Int):=(by omega);have X:decide ((x.f.data.size:Int)-(p:Int)<0)=false:=qA (by omega);by_cases ab:B=p
    all_goals
     clear h i y r d t u c0 c1 c2 L M N o e F v H C O S T Q P;go_enter func130,ntmps130;go_wp2_with fail;refine X5 s.out ?_;go_wp2_with fail;refine X5 j.out ?_;go_wp2;go_ret2;exact mI I.out J.out _
   ·have Y:=fun c=>qQg P Q c
    have ab:¬B=p:=(by omega);have ah:(p:Int)<=(B:Int):=(by omega);clear h i y r d t u c0 c1 c2 L M N o e F v H C S T Q P Z;go_enter func130,ntmps130;go_wp2_with fail;refine X5 s.out ?_;go_wp2_with fail;refine X5 j.out ?_;go_wp2;go_ret2;exact mI I.out J.out _
end
def dW(E:List Ent)(x:Ent):List Ent:=E.take (yD (E.map Ent.f) x.f.name)++[x]++E.drop (yD (E.map Ent.f) x.f.name)
def uY(E:List Ent)(k:Nat):List Ent:=E.take k++E.drop (k+1)
def cf(E:List Ent)(n:Tw):List Ent:=if jx (E.map Ent.f) n<E.length then uY E (jx (E.map Ent.f) n) else E
section
variable {E:List Ent}{x:Ent}{k:Nat}{n:Tw}
theorem CR: (dW E x).map Ent.f=kO (E.map Ent.f) x.f:=by
 unfold dW kO;rw[List.map_append,List.map_append,List.map_take,List.map_drop];rfl
theorem Qc: (uY E k).map Ent.f=kr (E.map Ent.f) k:=by
 unfold uY kr;rw[List.map_append,List.map_take,List.map_drop]
theorem CS: (cf E n).map Ent.f=yc (E.map Ent.f) n:=by
 unfold cf yc;rw[qq];split
 ·exact Qc
 ·rfl
theorem dd: (dW E x).Perm (x::E):=by
 unfold dW;rw[qh];have h:(List.take (yD (E.map Ent.f) x.f.name) E++([x]++List.drop (yD (E.map Ent.f) x.f.name) E)).Perm (([x]++List.drop (yD (E.map Ent.f) x.f.name) E)++List.take (yD (E.map Ent.f) x.f.name) E):=List.perm_append_comm;refine h.trans ?_;rw[qh];refine List.Perm.cons x ?_;have a:(List.drop (yD (E.map Ent.f) x.f.name) E++List.take (yD (E.map Ent.f) x.f.name) E).Perm (List.take (yD (E.map Ent.f) x.f.name) E++List.drop (yD (E.map Ent.f) x.f.name) E):=List.perm_append_comm;rw[qp]at a;exact a
theorem Qd(h:E[k]? = some x):E.Perm (x::uY E k):=by
 have b:=(qO.1 h).1
 have e:E=E.take k++(x::E.drop (k+1)):=by
  have c:E.drop k=x::E.drop (k+1):=by
   rw[xZ b];congr 1;rw[qE b]at h;simpa using h
  rw[<-c,qp]
 have a:(E.take k++(x::E.drop (k+1))).Perm (x::(E.take k++E.drop (k+1))):=List.perm_middle;unfold uY;rw[<-e]at a;exact a
theorem fS: (uY E k).Sublist E:=by
 unfold uY;have e:E=E.take k++E.drop k:=(qp k E).symm;have h:(E.drop (k+1)).Sublist (E.drop k):=by rw[<-List.drop_drop];exact List.drop_sublist _ _
 have a:=(List.Sublist.refl (E.take k)).append h;rw[qp]at a;exact a
theorem sC: (cf E n).Sublist E:=by
 unfold cf;split
 ·exact fS
 ·exact List.Sublist.refl _
theorem CT{x y:Ent}(h:bl x y):bl y x:=⟨fun e=>h.1 e.symm,fun b a c=>h.2 b c a⟩
theorem C4(h:(x::E).Pairwise bl):(dW E x).Pairwise bl:=(dd.pairwise_iff (fun {a b} c=>CT c)).2 h
theorem qZj(d:E[k]? = some x)(h:E.Pairwise bl):(x::uY E k).Pairwise bl:=((Qd d).pairwise_iff (fun {a b} c=>CT c)).1 h
def pQ(E:List Ent):Prop:=E.Pairwise (fun x y=>x.f.name≠y.f.name)
theorem qZk(h:gA (E.map Ent.f)):pQ E:=(List.pairwise_map (f:=Ent.f) (R:=fun x y=>x.name≠y.name)).1 (BW h)
theorem qZv(d:E[k]? = some x)(h:pQ E):pQ (x::uY E k):=((Qd d).pairwise_iff (fun {a b} c e=>c e.symm)).1 h
theorem Jr(a:E[k]? = some x)(h:pQ E):∀y∈uY E k,y.f.name≠x.f.name:=fun y b e=>(xU.1 (qZv a h)).1 y b e.symm
theorem C5(a:E[k]? = some x){y:Ent}(c:y∈E)(b:y.f.name≠x.f.name):y∈uY E k:=by
 rcases qM.1 ((Qd a).mem_iff.1 c) with rfl|h
 ·exact absurd rfl b
 ·exact h
theorem qZy(h:pQ E):∀y∈cf E n,y.f.name≠n:=by
 unfold cf;split
 ·rename_i b;obtain⟨f,a,e⟩:=mh (l:=E.map Ent.f) (n:=n) (by rw[qq];exact b);rw[qv]at a;cases c:E[jx (E.map Ent.f) n]? with
  | none=>rw[c]at a;cases a
  | some x =>
    rw[c]at a;obtain rfl:x.f=f:=(by simpa using a);intro y d;rw[<-e];exact Jr c h y d
 ·rename_i b;intro y d;exact sX (l:=E.map Ent.f) (by rw[qq];exact b) y.f (qP.2 ⟨y,d,rfl⟩)
theorem qZu{y:Ent}(c:y∈E)(i:y.f.name≠n):y∈cf E n:=by
 unfold cf;split
 ·rename_i d;obtain⟨f,a,e⟩:=mh (l:=E.map Ent.f) (n:=n) (by rw[qq];exact d);rw[qv]at a;cases b:E[jx (E.map Ent.f) n]? with
  | none=>rw[b]at a;cases a
  | some x =>
    rw[b]at a;obtain rfl:x.f=f:=(by simpa using a);exact C5 b c (by rw[e];exact i)
 ·exact c
theorem qZg{l:List jO}(h:gA l)(n:Tw):gA (yc l n):=by
 unfold yc;split
 ·exact Jj h _
 ·exact h
end
section
variable {w w1 w':World}{base g mb:Nat}{vF:Value}{E E':List Ent}{K G:List Nat}{D D':jL}
theorem PAt.nodup(h:PAt w base g mb vF E K D):((E.map Ent.nb).map (fun x=>x.1.data.toList)).Nodup:=by rw[Jn h];exact BG h.xI
theorem PAt.zI(h:PAt w base g mb vF E K D):pQ E:=qZk (by rw[<-h.xN];exact h.xI)
theorem PAt.zU(h:PAt w base g mb vF E K D):E.length=D.l.length:=by rw[h.xN,qq]
theorem qZb: ∀y∈vJ g mb E' K,(∀z∈E',z∈E)->y∈vJ g mb E K:=by
 intro y b a;rcases yQ.1 b with e|e|e|⟨z,c,e⟩
 ·exact yQ.2 (qX e)
 ·exact yQ.2 (qY (qX e))
 ·exact fP e
 ·exact cd (a z c) e
end
section
variable {w w1 w':World}{base g mb:Nat}{vF:Value}{E E':List Ent}{K G:List Nat}{D D':jL}
theorem PAt.zj(h:PAt w base g mb vF E K D){x:Ent}(a:x∈E):x.f.name.size<=maxLen:=by
 have:=h.names x.f (by rw[h.xN];exact qP.2 ⟨x,a,rfl⟩);unfold vY at this;simp only[Bool.and_eq_true,decide_eq_true_eq]at this;unfold maxLen;omega
theorem C6(h:PAt w base g mb vF E K D){k:Nat}{x:Ent}(c:E[k]? = some x):∃w',(Builtin.delete_ #[80,9] 0 #[.map (some mb),x.f.name]).run prog w=.ok (.tuple #[]) w'/\PAt w' base g mb vF (uY E k) K { D with l:=kr D.l k }/\jP [mb] w w':=by
 have p:=qN c
 obtain⟨w',o,j,d⟩:=h.map.drop (L':=(uY E k).map Ent.nb) (h.zj p) (fun y a=>by
  obtain⟨z,b,rfl⟩:=qP.1 a;exact⟨qP.2 ⟨z,fS.subset b,rfl⟩,Jr c h.zI z b⟩) (fun y a m=>by
  obtain⟨z,b,rfl⟩:=qP.1 a;exact qP.2 ⟨z,C5 c b m,rfl⟩) 0
 refine⟨w',o,h.zF (uY E k) _ (by rw[Qc,<-h.xN]) j d (fun y a=>h.xM y (fS.subset a)) (List.Pairwise.sublist fS h.apart) (Jj h.xI k) (fun f i=>h.names f (oU i)),d⟩
theorem qZc(h:PAt w base g mb vF E K D)(o:yo D)(n:Tw)(C:n.size<=maxLen):Calls prog 125 #[ptr g,n] w (yq bA base g (vJ g mb E K) w (err (jh D n).1) (jh D n).2):=by
 have v:=qQ h;cases a:D.down
 ·by_cases c:jx D.l n<D.l.length
  ·obtain⟨x,r,B,p⟩:=nx h c;have d:=qQ (ot h a r (by rw[p];exact C));rw[p]at d;rw[Lg a c];generalize jx D.l n=k at*;cases q:yG D
   ·have m:=qQ (sW h o q);simp only[Bool.false_eq_true,if_false];generalize uc D D.keep=T at*;clear h o r B p c a q;go_enter func125,ntmps125;go_wp2_with fail;refine X5 d.out ?_;go_wp2_with fail;refine m.out.mono ?_;rintro e S⟨E',rfl,f,i,j⟩;have F:=qQ f;have s:=qQ i;have t:=qQ j;clear f i j m;go_wp2;go_ret;exact sA F.out s.out t.out _
   ·have m:=qQ (sG h q);simp only[if_true];have J:=qQ r;have I:=qQ p;clear h o r B p c a q;go_enter func125,ntmps125;go_wp2_with fail;refine X5 d.out ?_;go_wp2_with fail;refine m.out.mono ?_;rintro e S⟨rfl,f,i⟩;obtain⟨U,P,j,A⟩:=C6 f J.out;rw[I.out]at P;obtain⟨c0,c1,c2,L,M,N,O⟩:=f.cells;have t:=qQ j;have H:=qQ A;have s:=qQ i;clear f i j A m c0 c1 L M N O;go_wp2;go_ret;refine⟨_,rfl,t.out.at,fun y Q=>qX (qZb y Q (fun z R=>fS.subset R)), ?_⟩;exact(s.out.more (fun b u=>qX (fP u))).trans H.out (fun b u=>qX (by rw[qH.1 u];exact Qg))
  ·have d:=qQ (oi h a c C);rw[Lb a c];clear h o c a;go_enter func125,ntmps125;go_wp2_with fail;refine X5 d.out ?_;go_wp2;go_ret;exact cG v.out _
 ·have d:=qQ (oo h a n);rw[Ld a];clear h o a;go_enter func125,ntmps125;go_wp2_with fail;refine X5 d.out ?_;go_wp2;go_ret;exact cG v.out _
end
section
variable {w w1 w':World}{base g mb:Nat}{vF:Value}{E E':List Ent}{K G:List Nat}{D D':jL}
def lM(w:World)(n:Tw):Ent:=⟨⟨n,ByteArray.empty,0⟩,w.1.size,.slice none 0 0⟩
def Qf(w:World):World:=w.alloc (.cells #[.slice none 0 0,.int .i64 0] 215)
theorem qZd(h:PAt w base g mb vF E K D)(n:Tw)(A:vY n=true)(v:n.size<=maxLen)(c:¬jx D.l n<D.l.length)(t:D.l.length<=400):
  ∃w',(Instr.mapUpdate 80 (.map (some mb)) (.string n) (ptr w.1.size)).run prog (Qf w)=.ok () w'/\PAt w' base g mb vF (dW E (lM w n)) K { D with l:=kO D.l ⟨n,ByteArray.empty,0⟩ }/\jP [mb] w w':=by
 have o:jP [] w (Qf w):=(jP.refl [] w).alloc _;have i:=h.xC o (fun _ _=>by simp);have r:base<=w.1.size:=by have:=h.gb;have:=h.xE.lt;omega
 have p:vS (Qf w) base (lM w n):=⟨jN.new w _ _,r,qQk _ _⟩
 have B:∀y∈E,y.f.name≠n:=fun y a=>sX c y.f (by rw[h.xN];exact qP.2 ⟨y,a,rfl⟩)
 have q:(lM w n::E).Pairwise bl:=xU.2 ⟨fun y a=>⟨fun e=>by
  have:=(h.xM y a).1.lt;have H:w.1.size=y.b:=e;omega,fun b j=>by cases j⟩,h.apart⟩
 obtain⟨w',C,u,m⟩:=i.map.store i.nodup (by rw[qq,h.zU];exact t) v (b:=w.1.size) (L':=(dW E (lM w n)).map Ent.nb) (qP.2 ⟨lM w n,dd.mem_iff.2 (by simp),rfl⟩)
  (fun y a=>by
   obtain⟨z,d,rfl⟩:=qP.1 a;rcases qM.1 (dd.mem_iff.1 d) with rfl|d
   ·exact qX rfl
   ·exact qY ⟨qP.2 ⟨z,d,rfl⟩,B z d⟩)
  (fun y a _=>by
   obtain⟨z,d,rfl⟩:=qP.1 a;exact qP.2 ⟨z,dd.mem_iff.2 (by simp[d]),rfl⟩)
 have s:(lM w n).f=⟨n,ByteArray.empty,0⟩:=rfl;refine⟨w',C,i.zF (dW E (lM w n)) _ (by rw[CR,s,<-h.xN]) u m (fun y a=>?_) (C4 q) (BU h.xI _ (fun y a=>sX c y a)) (fun f c=>?_),(o.more (fun x F=>by cases F)).trans m (fun b j=>qX j)⟩
 ·rcases qM.1 (dd.mem_iff.1 a) with rfl|a
  ·exact p
  ·exact i.xM y a
 ·rcases mn c with c|rfl
  ·exact h.names f c
  ·exact A
theorem qZf{x:Ent}{z:Nat}(d:∀b∈x.blocks,z<=b):∀y∈vJ g mb (dW E x) K,y∈vJ g mb E K∨z<=y:=by
 intro y c;rcases yQ.1 c with e|e|e|⟨u,a,e⟩
 ·exact qX (yQ.2 (qX e))
 ·exact qX (yQ.2 (qY (qX e)))
 ·exact qX (fP e)
 ·rcases qM.1 (dd.mem_iff.1 a) with rfl|a
  ·exact qY (d y e)
  ·exact qX (cd a e)
theorem qZh(h:PAt w base g mb vF E K D)(j:yo D)(n:Tw)(H:n.size<=maxLen):Calls prog 201 #[ptr g,n] w (yq bA base g (vJ g mb E K) w (err (jk D n).1) (jk D n).2):=by
 have C:=qQ h;have i:=qQ (Qy h);unfold lL at i;cases a:D.down
 case true =>
  rw[Lh a];rw[a]at i;clear h j a;go_enter func201,ntmps201;go_wp2_with fail;refine X5 i.out ?_;go_wp2;go_ret;exact cG C.out _
 rw[a]at i;have m:=qQ (CB n w H);cases c:vY n
 case false =>
  rw[Ll a c];rw[c]at m;clear h j a c;go_enter func201,ntmps201;go_wp2_with fail;refine X5 i.out ?_;go_wp2_with fail;refine X5 m.out ?_;go_wp2;go_ret;exact cG C.out _
 rw[c]at m;obtain⟨c0,c1,c2,o,p,r,s⟩:=h.cells;by_cases d:jx D.l n<D.l.length
 case pos =>
  obtain⟨x,I,M,R⟩:=nx h d;rw[Lm a c d];have M:=h.map.look H (b:=x.b) (qP.2 ⟨x,qN I,by unfold Ent.nb;rw[R]⟩);clear h j a c d I R c0 c1 o p r s;generalize x.b=xb at*;go_enter func201,ntmps201;go_wp2_with fail;refine X5 i.out ?_;go_wp2_with fail;refine X5 m.out ?_;go_wp2;go_ret;exact cG C.out _
 have M:=h.map.zq H (fun y hy=>by
  obtain⟨x,I,rfl⟩:=qP.1 hy;exact sX d x.f (by rw[h.xN];exact qP.2 ⟨x,I,rfl⟩))
 have Q:=fun ts=>h.map.len h.nodup ts
 rw[qq,h.zU]at Q;have Y:=j.many;by_cases N:400<=D.l.length
 case pos =>
  rw[Ln a c d N];have q:decide ((400:Int)<=(D.l.length:Int))=true:=qB (by omega);clear h j a c d c0 c1 o p r s;go_enter func201,ntmps201;go_wp2_with fail;refine X5 i.out ?_;go_wp2_with fail;refine X5 m.out ?_;go_wp2;go_ret;exact cG C.out _
 rw[Lp a c d N];have q:decide ((400:Int)<=(D.l.length:Int))=false:=qA (by omega);cases F:yG D
 ·have B:=qQ (sW h j F);simp only[Bool.false_eq_true,if_false];generalize uc D D.keep=D2 at*;clear h j a F c d c0 c1 o p r s;go_enter func201,ntmps201;go_wp2_with fail;refine X5 i.out ?_;go_wp2_with fail;refine X5 m.out ?_;go_wp2_with fail;refine B.out.mono ?_;rintro e O⟨E',rfl,t,u,v⟩;have S:=qQ t;have J:=qQ u;have L:=qQ v;clear t u v B;go_wp2;go_ret;exact sA S.out J.out L.out _
 ·have B:=qQ (sG h F);simp only[if_true];have X:=qQ c;have U:=qQ d;have W:=qQ Y;clear h j a F c d c0 c1 o p r s N;go_enter func201,ntmps201;go_wp2_with fail;refine X5 i.out ?_;go_wp2_with fail;refine X5 m.out ?_;go_wp2_with fail;refine B.out.mono ?_;rintro e O⟨rfl,t,u⟩;obtain⟨w3,Z,v,P⟩:=qZd t n X.out H U.out W.out;obtain⟨c0,c1,aa,o,p,r,s⟩:=t.cells;have L:=qQ v;have T:=qQ P;have J:=qQ u
  have V:=qQ (qZf (g:=g) (mb:=mb) (E:=E) (K:=K) (x:=lM O n) (z:=w.1.size) (fun b A=>by
   have e:b=O.1.size:=(by simpa[lM,Ent.blocks,Value.ownBlock] using A);rw[e];exact u.size))
  unfold Qf at Z;clear t u v P B c0 c1 o p r s c2 M Q;go_wp2;go_ret;refine⟨_,rfl,L.out.at,V.out, ?_⟩;exact(J.out.more (fun b A=>qX (fP A))).trans T.out (fun b A=>qX (by rw[qH.1 A];exact Qg))
end
section
variable {w w1 w':World}{base g mb:Nat}{vF:Value}{E E':List Ent}{K G:List Nat}{D D':jL}
def nj(x:Ent)(n:Tw):Ent:=⟨{ x.f with name:=n },x.b,x.v⟩
theorem qZl{x:Ent}{n:Tw}(h:vS w base x):vS w base (nj x n):=⟨h.1,h.2.1,h.2.2⟩
def Qh(l:List jO)(k:Nat)(n a:Tw):List jO:=if n=a then l else fp l k a
theorem qZm(h:PAt w base g mb vF E K D){k:Nat}{x:Ent}(c:E[k]? = some x)(v:D.l.length<=400)(i:PAt w1 base g mb vF (uY E k) K { D with l:=kr D.l k })(t:jP [mb] w w1):
  ∃w',(Instr.mapUpdate 80 (.map (some mb)) (.string x.f.name) (ptr x.b)).run prog w1=.ok () w'/\PAt w' base g mb vF E K D/\jP [mb] w1 w':=by
 have m:=qN c
 obtain⟨w',s,q,j⟩:=i.map.store i.nodup (by
  have u:(uY E k).length<=E.length:=fS.length_le;rw[qq];have:=h.zU;omega) (h.zj m) (b:=x.b) (L':=E.map Ent.nb) (qP.2 ⟨x,m,rfl⟩)
  (fun y d=>by
   obtain⟨z,a,rfl⟩:=qP.1 d;rcases qM.1 ((Qd c).mem_iff.1 a) with rfl|a
   ·exact qX rfl
   ·exact qY ⟨qP.2 ⟨z,a,rfl⟩,Jr c h.zI z a⟩)
  (fun y d _=>by
   obtain⟨z,a,rfl⟩:=qP.1 d;exact qP.2 ⟨z,fS.subset a,rfl⟩)
 have o:jP [mb] w w':=t.trans j (fun b p=>qX p);have r:=h.zF E D.l h.xN q o h.xM h.apart h.xI h.names;exact⟨w',s,r,j⟩
theorem qZn(h:PAt w base g mb vF E K D){k:Nat}{x:Ent}(o:E[k]? = some x){a:Tw}(C:vY a=true)(I:a.size<=maxLen)(Q:x.f.name≠a)(P:D.l.length<=400)(j:PAt w1 base g mb vF (uY E k) K { D with l:=kr D.l k })(H:jP [mb] w w1):
  ∃w',(Instr.mapUpdate 80 (.map (some mb)) (.string a) (ptr x.b)).run prog w1=.ok () w'/\PAt w' base g mb vF (dW (cf (uY E k) a) (nj x a)) K { D with l:=fp D.l k a }/\jP [mb] w1 w':=by
 have J:=qN o;have p:=qZy (n:=a) j.zI
 obtain⟨w',F,B,q⟩:=j.map.store j.nodup (by
  have O:(uY E k).length<=E.length:=fS.length_le;rw[qq];have:=h.zU;omega) I (b:=x.b) (L':=(dW (cf (uY E k) a) (nj x a)).map Ent.nb) (qP.2 ⟨nj x a,dd.mem_iff.2 (by simp),rfl⟩)
  (fun y c=>by
   obtain⟨z,d,rfl⟩:=qP.1 c;rcases qM.1 (dd.mem_iff.1 d) with rfl|d
   ·exact qX rfl
   ·exact qY ⟨qP.2 ⟨z,sC.subset d,rfl⟩,p z d⟩)
  (fun y c L=>by
   obtain⟨z,d,rfl⟩:=qP.1 c;exact qP.2 ⟨z,dd.mem_iff.2 (by simp[qZu d L]),rfl⟩)
 have m:D.l[k]? = some x.f:=by rw[h.xN,qv,o];rfl
 have v:(nj x a).f={ x.f with name:=a }:=rfl
 have s:(nj x a::cf (uY E k) a).Pairwise bl:=by
  obtain⟨M,N⟩:=xU.1 (qZj o h.apart);exact xU.2 ⟨fun y c=>M y (sC.subset c),List.Pairwise.sublist sC N⟩
 have A:fp D.l k a=(dW (cf (uY E k) a) (nj x a)).map Ent.f:=by
  rw[oK m,CR,CS,Qc,v,<-h.xN]
 have r:jP [mb] w w':=H.trans q (fun b t=>qX t);refine⟨w',F,h.zF _ _ A B r (fun y c=>?_) (C4 s) ?_ (fun f i=>?_),q⟩
 ·rcases qM.1 (dd.mem_iff.1 c) with rfl|c
  ·exact qZl (h.xM x J)
  ·exact h.xM y (fS.subset (sC.subset c))
 ·rw[oK m];refine BU (qZg (Jj h.xI k) a) _ (fun f i=>?_);have u:f∈(cf (uY E k) a).map Ent.f:=by rw[CS,Qc,<-h.xN];exact i
  obtain⟨z,d,rfl⟩:=qP.1 u;exact p z d
 ·rw[oK m]at i;rcases mn i with i|rfl
  ·exact h.names f (oU (VM i))
  ·exact C
theorem qZp(h:PAt w base g mb vF E K D)(q:yo D)(n c:Tw)(X:n.size<=maxLen)(Y:c.size<=maxLen):Calls prog 245 #[ptr g,n,c] w (yq bA base g (vJ g mb E K) w (err (vj D n c).1) (vj D n c).2):=by
 have H:=qQ h;cases a:D.down
 case true =>
  have m:=qQ (oo h a n);rw[Lr a];clear h q a;go_enter func245,ntmps245;go_wp2_with fail;refine X5 m.out ?_;go_wp2;go_ret;exact cG H.out _
 by_cases d:jx D.l n<D.l.length
 case neg =>
  have m:=qQ (oi h a d X);rw[Lt a d];clear h q d a;go_enter func245,ntmps245;go_wp2_with fail;refine X5 m.out ?_;go_wp2;go_ret;exact cG H.out _
 obtain⟨x,r,L,s⟩:=nx h d;have m:=qQ (ot h a r (by rw[s];exact X));rw[s]at m;have z:=qQ (CB c w Y);cases j:vY c
 case false =>
  rw[La a d j];rw[j]at z;clear h q a j d r L s;go_enter func245,ntmps245;go_wp2_with fail;refine X5 m.out ?_;go_wp2_with fail;refine X5 z.out ?_;go_wp2;go_ret;exact cG H.out _
 rw[j]at z;rw[Le a d j,show(if n=c then D.l else fp D.l (jx D.l n) c)=Qh D.l (jx D.l n) n c from rfl];generalize jx D.l n=k at*;cases B:yG D
 ·have v:=qQ (sW h q B);simp only[Bool.false_eq_true,if_false];generalize uc D D.keep=D2 at*;clear h q r L s d a B j;go_enter func245,ntmps245;go_wp2_with fail;refine X5 m.out ?_;go_wp2_with fail;refine X5 z.out ?_;go_wp2_with fail;refine v.out.mono ?_;rintro e w2⟨E',rfl,i,t,o⟩;have H1:=qQ i;have H2:=qQ t;have H3:=qQ o;clear i t o v;go_wp2;go_ret;exact sA H1.out H2.out H3.out _
 ·have v:=qQ (sG h B);simp only[if_true];have J:=qQ r;have I:=qQ s;have ab:=qQ j;have R:=qQ q.many;have W:∀b∈x.blocks,b∈vJ g mb E K:=fun b p=>cd (qN r) p
  have aa:=qQ W;clear h q r L s d a B j W;go_enter func245,ntmps245;go_wp2_with fail;refine X5 m.out ?_;go_wp2_with fail;refine X5 z.out ?_;go_wp2_with fail;refine v.out.mono ?_;rintro e w2⟨rfl,i,t⟩;obtain⟨Z,hr,o,A⟩:=C6 i J.out
  have ac:∃f F,(Instr.mapUpdate 80 (.map (some mb)) (.string c) (ptr x.b)).run prog Z=.ok () f/\PAt f base g mb vF F K { cZ D with l:=Qh D.l k n c }/\jP [mb] Z f/\(∀y∈vJ g mb F K,y∈vJ g mb E K):=by
   by_cases C:n=c
   ·obtain⟨f,O,P,Q⟩:=qZm i J.out R.out o A;refine⟨f,E, ?_,by unfold Qh;rw[qV C];exact P,Q,fun _ h=>h⟩;rw[<-C,<-I.out];exact O
   ·obtain⟨f,O,P,Q⟩:=qZn i J.out ab.out Y (by rw[I.out];exact C) R.out o A;refine⟨f,_,O,by unfold Qh;rw[qZ C];exact P,Q,fun y N=>?_⟩;rcases yQ.1 N with e|e|e|⟨u,M,e⟩
    ·exact yQ.2 (qX e)
    ·exact yQ.2 (qY (qX e))
    ·exact fP e
    ·rcases qM.1 (dd.mem_iff.1 M) with rfl|M
     ·exact aa.out y e
     ·exact cd (fS.subset (sC.subset M)) e
  obtain⟨f,F,ad,S,T,U⟩:=ac;rw[I.out]at hr;obtain⟨c0,c1,c2,c3,c4,c5,c6⟩:=i.cells;obtain⟨e0,e1,e2,e3,e4,e5,e6⟩:=o.cells;have V:jP (vJ g mb E K) w f:=((t.more (fun b p=>qX (fP p))).trans A (fun b p=>qX (by rw[qH.1 p];exact Qg))).trans T (fun b p=>qX (by rw[qH.1 p];exact Qg));have H5:=qQ S;have H7:=qQ U;have HT:=qQ V;clear i t o A S T U V v c0 c1 c3 c4 c5 c6 e0 e1 e3 e4 e5 e6;go_wp2;go_ret;exact⟨_,rfl,H5.out.at,fun y N=>qX (H7.out y N),HT.out⟩
end
def Ql(w:World)(c:Nat):World:=(w.alloc (.map #[] 0)).alloc (.cells #[ptr (w.1.size+1),c,.map (some w.1.size),.bool true,.int .i64 0,.int .i64 0,.pointer none] 83)
theorem qZr(base c:Nat)(w:World)(d:base<=w.1.size):PAt (Ql w c) base (w.1.size+1) w.1.size (.pointer none) [] [] (fV c):=by
 have j:(w.alloc (.map #[] 0)).1.size=w.1.size+1:=by simp
 have f:=yJ.made w (.map #[] 0) rfl
 have b:jN (Ql w c) (w.1.size+1) 83 #[ptr (w.1.size+1),c,.map (some w.1.size),.bool true,.int .i64 0,.int .i64 0,.pointer none]:=by
  have:=jN.new (w.alloc (.map #[] 0)) 83 #[ptr (w.1.size+1),c,.map (some w.1.size),.bool true,.int .i64 0,.int .i64 0,.pointer none];rw[j]at this;exact this
 have i:yJ (Ql w c) w.1.size []:=f.xC ((jP.refl [] (w.alloc (.map #[] 0))).alloc _) (by simp);exact⟨b,by omega,d,rfl,i,fun x a=>(by cases a),List.Pairwise.nil,List.Pairwise.nil,fun x a=>(by cases a),qX ⟨rfl,rfl,rfl⟩⟩
theorem qZs(base c:Nat)(w:World)(a:base<=w.1.size)(f:c<=1048576):Calls prog 24 #[c] w (VI bA base w c):=by
 have j:decide ((c:Int)<0)=false:=qA (by omega);have l:decide ((1048576:Int)<(c:Int))=false:=qA (by omega);have m:=@run_makeMap prog;have b:=qQ (qZr base c w a);have o:(w.alloc (.map #[] 0)).1.size=w.1.size+1:=by simp
 clear a f;go_enter func24,ntmps24;go_wp2;go_ret2;have d:jP [] w (Ql w c):=((jP.refl [] w).alloc _).alloc _;refine⟨w.1.size+1,_,rfl,b.out.at,fun x i=>?_,d⟩;rcases yQ.1 i with rfl|rfl|e|⟨_,e,_⟩
 ·omega
 ·omega
 ·cases e
 ·cases e
end
section
open Go.RowKit
theorem api: j8 bA where
 xC:=by
  rintro w w' base g F G D⟨mb,vF,E,K,h,rfl⟩ C z;exact⟨mb,vF,E,K,h.xC C z,rfl⟩
 low:=by
  rintro w base g F D⟨mb,vF,E,K,h,rfl⟩;exact h.low
 jF:=fun base c w l o=>qZs base c w l o
 create:=by
  rintro w base g F D n⟨mb,vF,E,K,h,rfl⟩ d f;exact qZh h d n f
 append:=by
  rintro w base g F D n s⟨mb,vF,E,K,h,rfl⟩ d B f;exact qZq h d n s f B
 read:=by
  rintro w base g F D n a k⟨mb,vF,E,K,h,rfl⟩ d o y A f;exact qZz h d o n a k f y A
 sync:=by
  rintro w base g F D n⟨mb,vF,E,K,h,rfl⟩ d f;exact qZ2 h d n f
 rename:=by
  rintro w base g F D n m⟨mb,vF,E,K,h,rfl⟩ d p f;exact qZp h d n m f p
 delete:=by
  rintro w base g F D n⟨mb,vF,E,K,h,rfl⟩ d f;exact qZc h d n f
 names:=by
  rintro w base g F D⟨mb,vF,E,K,h,rfl⟩ d;refine(CH h d.many).mono ?_;rintro e w'⟨v,r,t,q,i⟩;have u:=h.xC i (fun _ _=>by simp);exact⟨_,v,r,t,fun b l=>⟨q b l,fun p=>by have:=q b l;have:=(h.low b p).2;omega⟩,u.at,fun x j=>qX j,i.more (fun x j=>by cases j)⟩
 free:=by
  rintro w base g F D⟨mb,vF,E,K,h,rfl⟩ d;refine KG (CO h d) fun w' i=>?_;exact mI (h.xC i (fun _ _=>by simp)) (i.more (fun x j=>by cases j)) _
 jH:=by
  rintro w base g F D⟨mb,vF,E,K,h,rfl⟩;exact CM h
 jD:=by
  rintro w base g F D⟨mb,vF,E,K,h,rfl⟩;exact qZD h
 zP:=by
  rintro w base g F D n⟨mb,vF,E,K,h,rfl⟩ d f;exact qZE h d n f
 xI:=by
  rintro w base g F D⟨mb,vF,E,K,h,rfl⟩;exact⟨h.xI,h.names⟩
end
end Go.Proofs.YthejglbnkmimjaaGreat
