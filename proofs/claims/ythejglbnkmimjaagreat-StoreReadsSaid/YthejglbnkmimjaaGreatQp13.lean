import Derived.Test.YthejglbnkmimjaaGreatQp09
import Derived.Test.YthejglbnkmimjaaGreatQp11
set_option linter.unusedVariables false
set_option maxRecDepth 100000
set_option maxHeartbeats 9000000
namespace Go.Proofs.YthejglbnkmimjaaGreat
open Proofs.Tryz
section
open Go.RowKit
section
variable {w:World}{base g mb:Nat}{vF:Value}{E:List Ent}{K:List Nat}{D:jD}
theorem PAt.cells(h:PAt w base g mb vF E K D):w.cell? ⟨g,0,none⟩=some (ptr g)/\w.cell? ⟨g,1,none⟩=some (.int .i64 (D.cap:Nat))/\w.cell? ⟨g,2,none⟩=some (.map (some mb))/\w.cell? ⟨g,3,none⟩=some (.bool (!D.down)) /\
  w.cell? ⟨g,4,none⟩=some (.int .i64 (D.count:Nat))/\w.cell? ⟨g,5,none⟩=some (.int .i64 (D.xB:Nat))/\w.cell? ⟨g,6,none⟩=some vF :=
 ⟨h.xD.cell 0,h.xD.cell 1,h.xD.cell 2,h.xD.cell 3,h.xD.cell 4,h.xD.cell 5,h.xD.cell 6⟩
theorem nD(h:PAt w base g mb vF E K D){n:Tw}(d:j8 D.l n<D.l.length):∃x,E[j8 D.l n]? = some x/\D.l[j8 D.l n]? = some x.f/\x.f.name=n:=by
 obtain⟨f,b,i⟩:=mS d;have a:=b;generalize j8 D.l n=k at*;rw[h.xN,qu]at a;cases c:E[k]? with
 | none=>rw[c]at a;cases a
 | some x =>
   rw[c]at a;obtain rfl:x.f=f:=(by simpa using a);exact⟨x,rfl,b,i⟩
theorem BH: (prog.info? 83).map (·.size)=some 7:=by kernel_rfl
theorem qQb(d:Nat)(p:Addr)(w:World):(Op.equalIn (d+1) 31 (.pointer (some p)) (.pointer (some p))).run prog w=.ok true w:=by
 cases a:prog.info? 83 with
 | none=>have:=BH;rw[a]at this;cases this
 | some i =>
   have b:i.size=7:=(by have:=BH;rw[a]at this;simpa using this);simp[Op.equalIn,run_underlying Tryz.underlying31,sizeOf,typeInfo,a,sameAddr]
theorem qQc(p:Addr)(w:World):(binOp .neq 31 (.pointer (some p)) (.pointer (some p))).run prog w=.ok (.bool false) w:=by
 have a:(Op.equal 31 (.pointer (some p)) (.pointer (some p))).run prog w=.ok true w:=qQb 9999 p w;simp only[binOp];simp[a]
theorem mU(h:w.cell? ⟨g,0,none⟩=some (ptr g)):Calls prog 32 #[ptr g] w (X0 (.bool false) w):=by
 have a:=qQc ⟨g,0,none⟩;go_enter func32,ntmps32;go_wp2;go_ret;exact⟨rfl,rfl⟩
def lU(D:jD):Nat:=if D.down then 61 else 0
theorem QP(h:PAt w base g mb vF E K D):Calls prog 50 #[ptr g] w (X0 (.int .i64 (lU D:Nat)) w):=by
 obtain⟨c0,c1,c2,b,c,d,f⟩:=h.cells;have i:=qQ (mU c0);unfold lU;cases a:D.down
 all_goals
  rw[a]at b;clear a h c1 c2 c d f c0;go_enter func50,ntmps50;go_wp2_with fail;refine X5 i.out ?_;go_wp2;go_ret;exact⟨rfl,rfl⟩
theorem BI(n:Tw)(w:World)(c:n.size<=maxLen):Calls prog 248 #[n] w (X0 (.bool (ks n)) w):=by
 unfold maxLen at c;by_cases a:0<n.size
 ·by_cases b:n.size<=12
  ·have e:ks n=true:=(by unfold ks;rw[qB a,qB b];rfl);have d:decide ((1:Int)<=(n.size:Int))=true:=qB (by omega);have t:decide ((n.size:Int)<=12)=true:=qB (by omega);rw[e];clear e;go_enter func248,ntmps248;go_wp2;go_ret;exact⟨rfl,rfl⟩
  ·have e:ks n=false:=(by unfold ks;rw[qA b,Bool.and_false]);have d:decide ((1:Int)<=(n.size:Int))=true:=qB (by omega);have t:decide ((n.size:Int)<=12)=false:=qA (by omega);rw[e];clear e;go_enter func248,ntmps248;go_wp2;go_ret;exact⟨rfl,rfl⟩
 ·have e:ks n=false:=by unfold ks;rw[qA a,Bool.false_and]
  have t:decide ((1:Int)<=(n.size:Int))=false:=qA (by omega);have f:n.size=0:=by omega
  rw[e];clear e;go_enter func248,ntmps248;go_wp2;go_ret;exact⟨rfl,rfl⟩
theorem qQd(h:PAt w base g mb vF E K D){k:Nat}{x:Ent}(a:E[k]? = some x)(l:x.f.name.size<=maxLen):Calls prog 240 #[ptr g,x.f.name] w (X0 (.tuple #[ptr x.b,.int .i64 0]) w):=by
 obtain⟨c0,c1,c2,c,d,i,j⟩:=h.cells;have m:=qQ (mU c0);have o:=h.map.look l (b:=x.b) (qP.2 ⟨x,qM a,rfl⟩);generalize x.f.name=n at*;generalize x.b=b at*;clear a h c1 c d i j c0;go_enter func240,ntmps240;go_wp2_with fail;refine X5 m.out ?_;go_wp2;go_ret2;exact⟨rfl,rfl⟩
theorem qQf(h:PAt w base g mb vF E K D){n:Tw}(a:¬j8 D.l n<D.l.length)(j:n.size<=maxLen):Calls prog 240 #[ptr g,n] w (X0 (.tuple #[.pointer none,.int .i64 4]) w):=by
 obtain⟨c0,c1,c2,b,c,d,i⟩:=h.cells;have m:=qQ (mU c0)
 have q:=h.map.zk j (fun y p=>by
  obtain⟨x,o,rfl⟩:=qP.1 p;exact rG a x.f (by rw[h.xN];exact qP.2 ⟨x,o,rfl⟩))
 clear a h c1 b c d i c0;go_enter func240,ntmps240;go_wp2_with fail;refine X5 m.out ?_;go_wp2;go_ret2;exact⟨rfl,rfl⟩
theorem o8(h:PAt w base g mb vF E K D)(c:D.down=false){k:Nat}{x:Ent}(d:E[k]? = some x)(l:x.f.name.size<=maxLen):Calls prog 187 #[ptr g,x.f.name] w (X0 (.tuple #[ptr x.b,.int .i64 0]) w):=by
 have i:=qQ (QP h);have a:lU D=0:=by unfold lU;rw[c];rfl
 rw[a]at i;have j:=qQ (qQd h d l);generalize x.f.name=n at*;generalize x.b=b at*;clear d h c a;go_enter func187,ntmps187;go_wp2_with fail;refine X5 i.out ?_;go_wp2_with fail;refine X5 j.out ?_;go_wp2;go_ret2;exact⟨rfl,rfl⟩
theorem oq(h:PAt w base g mb vF E K D)(b:D.down=false){n:Tw}(c:¬j8 D.l n<D.l.length)(i:n.size<=maxLen):Calls prog 187 #[ptr g,n] w (X0 (.tuple #[.pointer none,.int .i64 4]) w):=by
 have d:=qQ (QP h);have a:lU D=0:=by unfold lU;rw[b];rfl
 rw[a]at d;have f:=qQ (qQf h c i);clear c h b a;go_enter func187,ntmps187;go_wp2_with fail;refine X5 d.out ?_;go_wp2_with fail;refine X5 f.out ?_;go_wp2;go_ret2;exact⟨rfl,rfl⟩
theorem ox(h:PAt w base g mb vF E K D)(b:D.down=true)(n:Tw):Calls prog 187 #[ptr g,n] w (X0 (.tuple #[.pointer none,.int .i64 61]) w):=by
 have c:=qQ (QP h);have a:lU D=61:=by unfold lU;rw[b];rfl
 rw[a]at c;clear h b a;go_enter func187,ntmps187;go_wp2_with fail;refine X5 c.out ?_;go_wp2;go_ret2;exact⟨rfl,rfl⟩
end
theorem qQh{P:Program}(x y:Int)(m:Int)(h:m=if x<y then y else x):∀a t w,(Builtin.max_ a t #[x,y]).run P w=.ok (.int .i64 m) w:=fun a t w=>by
 rw[run_max_int2,h]
theorem BN{w:World}{base:Nat}{v:Value}{d:Tw}(h:bq w base v d):(v=.slice none 0 0/\d.size=0)∨∃b a,v=.slice (some ⟨b,0,none⟩) d.size a/\d.size<=a/\a<=maxLen/\base<=b/\b<w.1.size:=by
 rcases h.2 with⟨rfl,e⟩|⟨g,a,j,rfl,i,o,c,f,l,m⟩
 ·exact qX ⟨rfl,e⟩
 ·exact qY ⟨g,a,rfl,c,f,i,(h.lt g rfl).2⟩
theorem qQl{w:World}{base:Nat}{d:Tw}(h:d.size=0):bq w base (.slice none 0 0) d:=⟨by rw[byteCells_length];omega,qX ⟨rfl,h⟩⟩
theorem BR{k:Int}(h:0<=k):(if 0<k then(0:Int) else k)=0:=by split<;>omega
theorem BS(b:Nat)(w:World)(u v:Value):jH [b] w ((w.setCell ⟨b,0,none⟩ u).setCell ⟨b,1,none⟩ v) :=
 ((jH.refl [b] w).setCell (p:=⟨b,0,none⟩) (qX (qH.2 rfl)) _).setCell (p:=⟨b,1,none⟩) (qX (qH.2 rfl)) _
def QR(base:Nat)(x:Ent)(w:World)(f:jI)(e:Ending)(w':World):Prop :=
 ∃v,e=.returned (.tuple #[])/\vA w' base ⟨f,x.b,v⟩/\v.ownBlock=x.v.ownBlock/\jH [x.b] w w'
theorem vA.cells{w:World}{base:Nat}{x:Ent}(h:vA w base x):w.cell? ⟨x.b,0,none⟩=some x.v/\w.cell? ⟨x.b,1,none⟩=some (.int .i64 (x.f.synced:Nat))/\w.frozen? ⟨x.b,0,none⟩=false/\w.frozen? ⟨x.b,1,none⟩=false :=
 ⟨h.1.cell 0,h.1.cell 1,h.1.frozen 0,h.1.frozen 1⟩
theorem vA.put{w:World}{base:Nat}{x:Ent}(h:vA w base x){v:Value}{d:Tw}(a:bq w base v d):vA (w.setCell ⟨x.b,0,none⟩ v) base ⟨⟨x.f.name,d,x.f.synced⟩,x.b,v⟩ :=
 ⟨h.1.put 0 v,h.2.1,vu a (vJ a h.1 (by decide)) _⟩
theorem vA.zG{w:World}{base:Nat}{x:Ent}(h:vA w base x)(n:Nat):vA (w.setCell ⟨x.b,1,none⟩ (.int .i64 (n:Nat))) base ⟨⟨x.f.name,x.f.data,n⟩,x.b,x.v⟩ :=
 ⟨h.1.put 1 _,h.2.1,vu h.2.2 (vJ h.2.2 h.1 (by decide)) _⟩
theorem qQm{w:World}{base:Nat}{x:Ent}(h:vA w base x)(k:Int)(z:0<=k)(N:x.f.data.size<=1048576)(m:Nat)(o:m=min k.toNat x.f.data.size):
  Calls prog 163 #[ptr x.b,k] w (QR base x w ⟨x.f.name,x.f.data.extract 0 m,min x.f.synced m⟩):=by
 obtain⟨c0,c1,I,J⟩:=h.cells;have A:=@XC prog k x.f.data.size m (by split<;>omega);have B:=@XC prog x.f.synced m (min x.f.synced m) (by split<;>omega);have p:m<=x.f.data.size:=by omega
 rcases BN h.2.2 with⟨e,u⟩|⟨b,s,e,O,C,L,M⟩
 ·obtain rfl:m=0:=by omega
  have c:bq w base (.slice none 0 0) (x.f.data.extract 0 0):=qQl (by rw[qk];omega);have H:=qQ h;have F:=qQ c;have l:x.v.ownBlock=none:=by rw[e];rfl
  rw[e]at c0;have A:∀d t w,(Builtin.min_ d t #[k,.int .i64 0]).run prog w=.ok (.int .i64 0) w:=fun d t w=>by rw[run_min_int2,BR z]
  have B:∀d t w,(Builtin.min_ d t #[x.f.synced,.int .i64 0]).run prog w=.ok (.int .i64 0) w:=fun d t w=>by rw[run_min_int2,BR (by omega)]
  have a:=(h.put c)
  have q:=a.1.cell 0;have r:=a.1.cell 1;have y:=a.1.frozen 1;have i:=qQ (a.zG (min x.f.synced 0));rw[Nat.min_zero]at i ⊢;clear a h c p o u;go_enter func163,ntmps163;go_wp2;go_region
  go_wp2_with fail;go_region
  go_end0;exact⟨_,rfl,i.out,l.symm,((BS x.b w _ _).drew).drew⟩
 ·have j:=h.2.2;rw[e]at j;have c:=Sb j p;have l:x.v.ownBlock=some b:=by rw[e];rfl
  rw[e]at c0;have a:=h.put c;have q:=a.1.cell 0;have r:=a.1.cell 1;have y:=a.1.frozen 1;have i:=qQ (a.zG (min x.f.synced m));unfold maxLen at C;have P:(0:Int)<=(m:Int):=by omega
  have Q:(m:Int)<=(s:Int):=by omega
  clear a h c o j;go_enter func163,ntmps163;go_wp2;go_region
  go_wp2_with fail;go_region
  go_end0;exact⟨_,rfl,i.out,l.symm,((BS x.b w _ _).drew).drew⟩
theorem qQn{w:World}{base:Nat}{x:Ent}(h:vA w base x)(n:Int)(hs:x.f.synced<=x.f.data.size)(S:x.f.data.size<=1048576):
  Calls prog 99 #[ptr x.b,n] w (QR base x w (gJ x.f n)):=by
 obtain⟨c0,c1,J,L⟩:=h.cells;obtain⟨m,l⟩:∃m,m=min n.toNat (x.f.data.size-x.f.synced):=⟨_,rfl⟩
 have hst:lM x.f n=x.f.synced+m:=by unfold lM;rw[l]
 have j:gJ x.f n=⟨x.f.name,x.f.data.extract 0 (x.f.synced+m),x.f.synced+m⟩:=by unfold gJ;rw[hst]
 obtain⟨t,c⟩:∃t:Nat,(t:Int)=if n<0 then 0 else n:=⟨n.toNat,by split<;>omega⟩
 have P:=@qQh prog n 0 t c;have Q:=@XC prog t ((x.f.data.size:Int)-(x.f.synced:Int)) m (by split<;>split at c<;>omega);have hcut:=qQ (fun W (O:vA W base x)=>qQm O ((x.f.synced:Int)+(m:Int)) (by omega) S (x.f.synced+m) (by omega));have q:(x.f.data.extract 0 (x.f.synced+m)).size=x.f.synced+m:=by rw[qk];omega
 have o:min x.f.synced (x.f.synced+m)=x.f.synced:=by omega
 rw[j];rw[o]at hcut;have z:=qQ q;have i:=qQ h;have X:(x.f.synced:Int)+(m:Int)<=1048576:=by omega
 have Y:0<=(x.f.data.size:Int)-(x.f.synced:Int):=by omega
 have Z:(x.f.data.size:Int)<=1048576:=by omega
 obtain⟨A,aa,s,T,U,_⟩:=mQ h.2.2;rw[s]at c0;clear s j hst l c o h q T U;go_enter func99,ntmps99;go_wp2_with fail;go_region
 go_wp2_with fail;refine(hcut.out _ (by first|exact i.out|exact i.out.drew)).mono ?_;rintro e w2⟨v2,rfl,a,u,r⟩;obtain⟨H,I,M,N⟩:=a.cells;obtain⟨V,ab,d,_⟩:=mQ a.2.2;dsimp only at d H I M N;rw[z.out]at d;have v:=qQ (a.zG (x.f.synced+m));have C:=qQ u;have B:=qQ r;subst d;clear u r a c0 c1 J L hcut Q P;go_wp2;go_end0;exact⟨_,rfl,v.out,C.out,(jH.trans (F:=[x.b]) (by first|exact jH.refl _ _|exact(jH.refl _ _).drew) B.out (fun y R=>qX R)).setCell (p:=⟨x.b,1,none⟩) (qX (qH.2 rfl)) _⟩
end
section
open Go.RowKit Go.Maps Go.Sort Go.Shelf
theorem qQp(m:Nat):AnyZ.SortsIn prog Tryz.sorted161_ren Fence.wide m :=
 ⟨fun b off a i W c d f=>callsIn_wide.2 (AnyM.slices_Sort_string Tryz.sort216 b off a i W c d f),fun p a W=>callsIn_wide.2 (AnyM.slices_Sort_string_none Tryz.sort216 p a W)⟩
theorem qQr(mb:Nat)(w:World):Calls prog 162 #[.map (some mb)] w fun e w'=>e=.returned (.func (.func 217) #[] #[.pointer (some ⟨w.1.size,0,none⟩)])/\w'=w.alloc (.cells #[.map (some mb)] 80) :=
 callsIn_wide.1 (AnyZ.keys_in Tryz.keys162 Fence.wide 5 trivial rfl (some mb) w)
theorem qQs(b f:Nat)(a:DataW Unit)(R:Value->Option (DataW Unit × List MemPlace))(w:World)(d:w.ownsMap prog 9 R b f a)(z:Maps.size a<=maxLen)(u:Maps.size a*16<=140737488355328):
  Calls prog 161 #[.func (.func 217) #[] #[.pointer (some ⟨w.1.size,0,none⟩)]] (w.alloc (.cells #[.map (some b)] 80)) fun e w'=>∃(v:Value) (c:List (List UInt8)),e=.returned v/\c.Perm (strKeys a) /\
   w'.ownsRow (w.alloc (.cells #[.map (some b)] 80)).1.size 9 1 v c.length ((c.mergeSort (fun x y=>decide (x<=y))).map encStr)/\Below (w.alloc (.cells #[.map (some b)] 80)).1.size (w.alloc (.cells #[.map (some b)] 80)) w':=by
 have t:=d.lt
 have B:SeqGives Fence.wide 2 prog 217 #[.pointer (some ⟨w.1.size,0,none⟩)] encStr (fun c=>c.Perm (strKeys a)) (Maps.size a) (w.alloc (.cells #[.map (some b)] 80)) :=
  AnyZ.keys_gives (ρ:=Tryz.keys162_ren) { Tryz.keys162 with } Fence.wide _ trivial rfl (by omega) w.1.size b f a _ (by simp) (by simp) (by
   obtain⟨l,j,s,i,A,r⟩:=d;exact⟨l,j,(Below.heap_alloc _ _ b t).trans s,i,A,r⟩)
 have h:=AnyZ.sorted_in Tryz.sorted161 Fence.wide 5 trivial trivial trivial trivial rfl (by omega) (qQp _) (enters_of func216 (by kernel_rfl) rfl) 217 #[.pointer (some ⟨w.1.size,0,none⟩)] trivial (enters_of func217 (by kernel_rfl) rfl) _ _ z u _ B;refine(callsIn_wide.1 h).mono ?_;rintro e w'⟨v,c,m,o,p,_,q⟩;exact⟨v,c,m,o,p,q⟩
section
variable {w:World}{base g mb:Nat}{vF:Value}{E:List Ent}{K:List Nat}{D:jD}
def BT(w:World)(l:List jI)(e:Ending)(w':World):Prop:=∃v,e=.returned v/\uR w' v (l.map jI.name)/\(∀b,v.ownBlock=some b->w.1.size<=b)/\jH [] w w'
theorem qQt{w:World}{base:Nat}{v:Value}{l:List Tw}(h:w.ownsRow base 9 1 v l.length (l.map Value.string)):uR w v l:=by
 rcases h.2 with⟨rfl,e⟩|⟨b,f,cs,rfl,_,a,j,m,_,o⟩
 ·exact qX ⟨List.eq_nil_of_length_eq_zero e,none,0,rfl⟩
 ·refine qY ⟨b,0,f,rfl,j,m, ?_,fun i x d=>?_⟩
  ·rcases qh b w.1.size with c|c
   ·exact c
   ·rw[Array.getElem?_eq_none c]at a;cases a
  ·have p:=(qO.1 d).1;rw[qa,h.cellAt i (by omega),qu,d];rfl
theorem J1(h:PAt w base g mb vF E K D):(E.map Ent.nb).map (fun x=>x.1.data.toList)=D.l.map (fun f=>f.name.data.toList):=by
 rw[h.xN,List.map_map,List.map_map];rfl
theorem B8(h:PAt w base g mb vF E K D)(m:D.l.length<=400):Calls prog 98 #[ptr g] w (BT w D.l):=by
 obtain⟨c0,c1,c2,J,L,M,N⟩:=h.cells;have R:=qQ (mU c0);obtain⟨n,d,c,i⟩:=h.map;have o:((E.map Ent.nb).map (fun x=>x.1.data.toList)).Nodup:=by rw[J1 h];exact GZ h.xH
 have j:=i.keys c o;have I:=i.size c o;rw[J1 h]at j
 have Q:Maps.size d<=400:=by
  rw[I,qz];have:=h.xN;rw[this,qz]at m;exact m
 have F:=h.xH;have t:=qQ (qQs mb n d gC w c (by unfold maxLen;omega) (by omega));have r:=qQ (qQr mb w)
 have C:∀(v:Value) (a:List (List UInt8)) (w':World),a.Perm (strKeys d)->w'.ownsRow (w.alloc (.cells #[.map (some mb)] 80)).1.size 9 1 v a.length ((a.mergeSort (fun x y=>decide (x<=y))).map encStr) ->
   Below (w.alloc (.cells #[.map (some mb)] 80)).1.size (w.alloc (.cells #[.map (some mb)] 80)) w'->BT w D.l (.returned v) w':=by
  intro v a w' S p O;have B:a.Perm (D.l.map (fun f=>f.name.data.toList)):=S.trans j.symm;rw[Sq F B]at p
  have e:(D.l.map (fun f=>f.name.data.toList)).map encStr=(D.l.map jI.name).map Value.string:=by
   rw[List.map_map,List.map_map];apply List.map_congr_left;intro f _;show encStr f.name.data.toList=.string f.name;unfold encStr;simp
  rw[e,B.length_eq,qz]at p;have H:w'.ownsRow (w.alloc (.cells #[.map (some mb)] 80)).1.size 9 1 v (D.l.map jI.name).length ((D.l.map jI.name).map Value.string):=by rw[qz];exact p
  refine⟨v,rfl,qQt H,fun b P=>?_,(((jH.refl [] w).alloc _).trans (jH.xA O) (fun x T=>by cases T))⟩;have:=(H.lt b P).1;have U:(w.alloc (.cells #[.map (some mb)] 80)).1.size=w.1.size+1:=by simp
  omega
 have s:=qQ C;clear C o j I Q F h c i c0 c1 J L M N m;go_enter func98,ntmps98;go_wp2_with fail;refine X5 R.out ?_;go_wp2_with fail;refine r.out.mono ?_;rintro e w'⟨rfl,rfl⟩;go_wp2_with fail;refine t.out.mono ?_;rintro e w'⟨v,a,rfl,u,z,A⟩;have q:=qQ (s.out v a w' u z A);clear u z A t r s;obtain⟨W,V,_⟩:=q.out;go_wp2;go_ret;exact q.out
end
end
section
open Go.RowKit
theorem uR.xC{F:List Nat}{w w':World}{v:Value}{l:List Tw}(h:uR w v l)(c:jH F w w')(hF:∀b,v.ownBlock=some b->b ∉ F):uR w' v l:=by
 rcases h with h|⟨b,off,d,rfl,f,j,a,m⟩
 ·exact qX h
 ·exact qY ⟨b,off,d,rfl,f,j,qS a c.size,fun i x o=>(c.cell (p:=⟨b,off+i,none⟩) a (hF b rfl)).trans (m i x o)⟩
theorem kF.later{F:List Nat}{w w':World}{v:Value}{l:List Int}(h:kF w v l)(a:jH F w w')(hF:l≠[]->∀b,v.ownBlock=some b->b ∉ F):kF w' v l:=by
 by_cases e:l=[]
 ·subst e;rcases h with h|⟨b,off,c,rfl,_⟩
  ·exact qX h
  ·exact qX ⟨rfl,_,_,rfl⟩
 ·exact h.xC a (hF e)
def FB(E:List Ent):List Nat:=E.flatMap Ent.blocks
theorem oz{E:List Ent}{b:Nat}:b∈FB E↔∃x∈E,b∈x.blocks:=xZ
theorem B9{E E':List Ent}(h:E'.map Ent.blocks=E.map Ent.blocks):FB E'=FB E:=by
 unfold FB;rw[List.flatMap_def,List.flatMap_def,h]
theorem qQa(l:List jI)(keep:List Int):bM l keep 0=l:=by
 unfold bM;apply xV;intro i;rw[List.getElem?_mapIdx];cases l[i]?<;>simp
theorem qQe(l:List jI)(keep:List Int):bM l keep l.length=bN l keep:=by
 unfold bM bN;apply xV;intro i;rw[List.getElem?_mapIdx,List.getElem?_mapIdx];rcases qh i l.length with c|c
 ·simp only[if_pos c]
 ·rw[xX c];rfl
theorem qQi{l:List jI}{keep:List Int}{k:Nat}{f:jI}(h:l[k]? = some f):(bM l keep k).set k (gJ f (keep.getD k 0))=bM l keep (k+1):=by
 have a:=(qO.1 h).1;unfold bM;apply xV;intro i;rw[List.getElem?_set,List.getElem?_mapIdx,List.getElem?_mapIdx,List.length_mapIdx];by_cases e:k=i
 ·subst e;rw[qV rfl,qV a,h,Option.map_some,qV (Nat.lt_succ_self _)]
 ·rw[qZ e];cases l[i]? with
  | none=>rfl
  | some x =>
    rw[Option.map_some,Option.map_some];by_cases c:i<k
    ·rw[qV c,qV (by omega)]
    ·rw[qZ c,qZ (by omega)]
theorem qQo(l:List jI)(keep:List Int)(k:Nat):(bM l keep k)[k]? = l[k]? := by
 unfold bM;rw[List.getElem?_mapIdx];cases l[k]? with
 | none=>rfl
 | some x=>rw[Option.map_some,qZ (Nat.lt_irrefl _)]
section
variable {w:World}{base g mb:Nat}{vF:Value}{E:List Ent}{K:List Nat}{D:jD}
def rO(w:World)(base g mb:Nat)(vF:Value)(E:List Ent)(K:List Nat)(D:jD)(keep:List Int)(b a:Value)(k:Nat)(wr:World):Prop :=
 ∃E',PAt wr base g mb vF E' K { D with l:=bM D.l keep k }/\E'.map Ent.blocks=E.map Ent.blocks/\jH (FB E) w wr/\uR wr b (D.l.map jI.name)/\kF wr a keep
theorem rO.next{keep:List Int}{q p:Value}{k:Nat}{wr w2:World}(h:rO w base g mb vF E K D keep q p k wr)(P:PAt w base g mb vF E K D)(y:∀b,q.ownBlock=some b->b ∉ FB E)(C:keep≠[]->∀b,p.ownBlock=some b->b ∉ FB E)
  {E':List Ent} (z:PAt wr base g mb vF E' K { D with l:=bM D.l keep k }) (s:E'.map Ent.blocks=E.map Ent.blocks) {x:Ent} {f:jI} (I:D.l[k]? = some f) (d:E'[k]? = some x) (N:x.f=f) {e:Ending} (H:QR base x wr (gJ x.f (keep.getD k 0)) e w2):
  rO w base g mb vF E K D keep q p (k+1) w2:=by
 obtain⟨v,_,t,r,c⟩:=H;obtain⟨_,_,_,B,A,u⟩:=h;have O:=qM d;have F:x.b∈FB E:=by rw[<-B9 s];exact oz.2 ⟨x,O,by simp[Ent.blocks]⟩
 have o:∀b∈[x.b],b∈FB E:=fun b a=>by rw[qH.1 a];exact F
 refine⟨E'.set k ⟨gJ x.f (keep.getD k 0),x.b,v⟩, ?_, ?_,B.trans c (fun b a=>qX (o b a)),A.xC c (fun b a i=>y b a (o b i)),u.later c (fun M b a i=>C M b a (o b i))⟩
 ·have m:=z.zP d ⟨gJ x.f (keep.getD k 0),x.b,v⟩ rfl rfl c (fun b a=>by rw[qH.1 a];simp[Ent.blocks]) t (fun b a=>qX (r ▸ a));have L:(bM D.l keep k).set k (gJ x.f (keep.getD k 0))=bM D.l keep (k+1):=qQi (by rw[N];exact I);dsimp only at m;rw[L]at m;exact m
 ·rw[<-s,List.map_set];apply xV;intro j;rw[List.getElem?_set];by_cases e:k=j
  ·subst e;have J:=(qO.1 d).1;rw[qV rfl,qV (by simpa using J),qu,d];show some (x.b::v.ownBlock.toList)=some (x.b::x.v.ownBlock.toList);rw[r]
  ·rw[qZ e]
def qQw(w:World)(base g mb:Nat)(E:List Ent)(D:jD)(e:Ending)(w':World):Prop :=
 ∃E',e=.returned (.tuple #[])/\PAt w' base g mb (.pointer none) E' [] D/\E'.map Ent.blocks=E.map Ent.blocks/\jH (g::FB E) w w'
theorem qXQ(S:Value)(keep:List Int)(h:PAt w base g mb vF E K D)(J:y8 D)(j:kF w S keep)(hV:keep≠[]->∀b,S.ownBlock=some b->b ∉ FB E):
  Calls prog 51 #[ptr g,S] w (qQw w base g mb E (uf D keep)):=by
 have ad:=qQ (B8 h J.many);have ab:=h.low;obtain⟨A,off,X,rfl,aa,-⟩:=j.cell;have av:keep.length<=9223372036854775807:=by unfold maxLen at aa;omega
 have U:=qQ h;have aj:=qQ J;have HI:=qQ j;have HV:=qQ hV
 have HM:=qQ (show ∀f∈D.l,f.name.size<=maxLen from fun f hf=>by
  have:=h.names f hf;unfold ks at this;simp only[Bool.and_eq_true,decide_eq_true_eq]at this;unfold maxLen;omega)
 have HL:=qQ ab;have ax:=J.many;clear h J j hV ab aa;go_enter func51,ntmps51;go_wp2_with fail;refine ad.out.mono ?_;rintro e w1⟨vN,rfl,o,ac,L⟩
 have Z:∀b,vN.ownBlock=some b->b ∉ FB E:=fun b hb hm=>by
  have h1:=ac b hb;have h2:=(HL.out b (vd.2 (qY (qY (qY (oz.1 hm)))))).2;omega
 obtain⟨T,ay,Y,rfl,-,-⟩:=o.cell
 have af:rO w base g mb vF E K D keep (.slice T (D.l.map jI.name).length Y) (.slice A keep.length X) 0 w1 :=
  ⟨E,by rw[qQa];exact U.out.xC L (fun _ _=>by simp),rfl,L.more (fun x d=>by cases d),o,HI.out.xC L (fun _ _=>by simp)⟩
 have ai:=qQ Z;have F:=qQ af;clear o ac L Z af ad;rw[qz]at F ⊢;go_wp2;go_loopw [10] (fun i wr=>∃k:Nat,k<=D.l.length/\i=.int .i64 k/\rO w base g mb vF E K D keep (.slice T D.l.length Y) (.slice A keep.length X) k wr) (fun i _=>D.l.length-(intOf i).toNat)
 case atStart=>exact⟨0,qI _,rfl,F.out⟩
 case round =>
  obtain⟨k,hk,rfl,hF⟩:=hrel;have H:=qQ hF;obtain⟨E',a,I,P,o,j⟩:=hF;by_cases al:k<D.l.length
  ·obtain⟨f,r⟩:=XA al;have s:(bM D.l keep k)[k]? = some f:=(by rw[qQo];exact r);rw[show bM D.l keep k=_ from a.xN,qu]at s
   obtain⟨x,d,z⟩:∃x,E'[k]? = some x/\x.f=f:=by
    cases hh:E'[k]? with
    | none=>rw[hh]at s;cases s
    | some x=>rw[hh]at s;exact⟨x,rfl,by simpa using s⟩
   have hX:=a.xM x (qM d);have Q:=aj.out.x8 f (qM r);have ae:=HM.out f (qM r);have aw:=a.map.look (m:=f.name) ae (b:=x.b) (qP.2 ⟨x,qM d,by unfold Ent.nb;rw[z]⟩);obtain⟨c0,c1,c2,V,N,O,W⟩:=a.cells;obtain⟨A2,o1,ao,ag,-,ah⟩:=o.cell;obtain⟨hA,-,-⟩:=Value.slice.inj ag;subst hA;clear ag;obtain⟨b,rfl,au⟩:=ah k f.name (by rw[qu,r];rfl);have v:=qQ (qQn hX (keep.getD k 0) (by rw[z];exact Q.1) (by rw[z];exact Q.2));have u:=qQ (fun C e (q:QR base x wr (gJ x.f (keep.getD k 0)) e C)=>H.out.next U.out ai.out HV.out a I r d z q);have l1:(k:Int)<(D.l.length:Int):=by omega
   have ak:(k<keep.length/\∃(B R:Nat) (y:Int),A=some ⟨B,R,none⟩/\wr.cell? ⟨B,R+k,none⟩=some (.int .i64 y)/\keep.getD k 0=y)∨(keep.length<=k/\keep.getD k 0=0):=by
    rcases qh k keep.length with c|c
    ·refine qX ⟨c, ?_⟩;rcases j with⟨e,_⟩|⟨B,an,aq,e,_,_,_,hc⟩
     ·rw[e]at c;exact absurd c (Nat.not_lt_zero k)
     ·refine⟨B,an,keep[k],(Value.slice.inj e).1,hc k _ (qD c), ?_⟩;rw[qj,qD c];rfl
    ·exact qY ⟨c,by rw[qj,xX c];rfl⟩
   clear s hX Q ae a I P o j ah H r d z c0 c1 V N O W F;rcases ak with⟨q1,B,R,y,rfl,q2,M⟩|⟨q1,M⟩
   all_goals
    rw[M]at v u;have H3:=qQ M;clear M
   ·have q4:(k:Int)<(keep.length:Int):=(by omega);go_wp2_with fail;refine v.out.mono ?_;rintro e C q;have t:=qQ (u.out C e q);obtain⟨v2,rfl,_⟩:=q;clear v u;go_wp2;go_roundw
    case rel=>exact⟨k+1,by omega,by go_num,t.out⟩
    case measure=>simp[intOf];omega
   ·have q4:decide ((k:Int)<(keep.length:Int))=false:=qA (by omega);go_wp2_with fail;refine v.out.mono ?_;rintro e C q;have t:=qQ (u.out C e q);obtain⟨v2,rfl,_⟩:=q;clear v u;go_wp2;go_roundw
    case rel=>exact⟨k+1,by omega,by go_num,t.out⟩
    case measure=>simp[intOf];omega
  ·obtain rfl:k=D.l.length:=(by omega);rw[qQe]at a;obtain⟨c0,c1,c2,V,N,O,W⟩:=a.cells;have f3:=a.xD.frozen 3;have f6:=a.xD.frozen 6;have HP:=qQ ((a.zE true).zw []);have ap:=((a.zE true).cells).2.2.2.2.2.2;have ar:=(a.zE true).xD.frozen 6;have t:=qQ I;have HT:=qQ P;clear o j P I a c0 c1 c2 N O H F;go_wp2;go_end0;refine⟨E',rfl,HP.out,t.out, ?_⟩;have am:∀x∈FB E,x∈g::FB E∨w.1.size<=x:=fun x d=>qX (qF _ d)
   exact((HT.out.more am).setCell (p:=⟨g,3,none⟩) (qX (by simp)) _).setCell (p:=⟨g,6,none⟩) (qX (by simp)) _
end
theorem qXX(D:jD)(keep:List Int)(h:D.l.length<=400):uf D (keep.take 400)=uf D keep:=by
 unfold uf
 have e:bN D.l (keep.take 400)=bN D.l keep:=by
  unfold bN;apply xV;intro i;rw[List.getElem?_mapIdx,List.getElem?_mapIdx];rcases qh i D.l.length with c|c
  ·have:(keep.take 400).getD i 0=keep.getD i 0:=by
    rw[qj,qj,List.getElem?_take,qV (by omega)]
   rw[this]
  ·rw[xX c];rfl
 rw[e]
theorem fD.ints{w:World}{base:Nat}{v:Value}{l:List Int}{K:List Nat}(h:fD w base v l K):kF w v l/\(l≠[]->∀b,v.ownBlock=some b->b∈K):=by
 rcases h with⟨rfl,rfl,a,c,rfl⟩|⟨h,rfl⟩
 ·exact⟨qX ⟨rfl,a,c,rfl⟩,fun h=>absurd rfl h⟩
 ·exact⟨(pL.zm h).xE,fun _ b d=>by simp[d]⟩
section
variable {w:World}{base g mb:Nat}{vF:Value}{E:List Ent}{K:List Nat}{D:jD}
theorem PAt.zr(h:PAt w base g mb vF E K D):∀b∈K,b ∉ FB E:=fun b a d=>by
 obtain⟨x,f,c⟩:=oz.1 d;exact(h.xM x f).zT h.fail b c a
def qXZ(w:World)(base g mb:Nat)(vF:Value)(E:List Ent)(K:List Nat)(D:jD)(e:Ending)(w':World):Prop :=
 e=.returned (.bool false)/\PAt w' base g mb vF E K (cX D)/\jH K w w'
def qXJ(w:World)(base g mb:Nat)(E:List Ent)(D:jD)(e:Ending)(w':World):Prop :=
 ∃E',e=.returned (.bool true)/\PAt w' base g mb (.pointer none) E' [] D/\E'.map Ent.blocks=E.map Ent.blocks/\jH (g::FB E) w w'
theorem rP(h:PAt w base g mb vF E K D)(f:yQ D=true):Calls prog 188 #[ptr g] w (qXZ w base g mb vF E K D):=by
 obtain⟨c0,c1,c2,l,o,q,J⟩:=h.cells;have t:=qQ h;rcases h.fail with⟨e,rfl,rfl⟩|⟨b,n,I,j,rfl,e,F,a,B,i,rfl⟩
 ·have v:=qQ (show cX D=D by unfold cX;rw[show D.fails-1=D.fails by omega]);clear h f e c0 c1 c2 l o q;go_enter func188,ntmps188;go_wp2;go_ret;exact⟨rfl,by rw[v.out];exact t.out,jH.refl _ _⟩
 ·have H:n≠0:=fun A=>by
   unfold yQ at f;rw[e,A]at f;simp at f
  obtain⟨m,rfl⟩:∃m,n=m+1:=⟨n-1,by omega⟩
  have L:w.cell? ⟨b,0,none⟩=some (.int .i64 ((m:Int)+1)):=a.cell 0;have M:=a.frozen 0;have d:∀u,jH [b] w (w.setCell ⟨b,0,none⟩ u):=fun u=>(jH.refl _ w).setCell (p:=⟨b,0,none⟩) (qX (qH.2 rfl)) u
  have r:g≠b:=h.xD.xi a (by decide)
  have s:PAt (w.setCell ⟨b,0,none⟩ (.int .i64 (m:Nat))) base g mb (ptr b) E (b::j) (cX D):=by
   refine h.zU (G:=[b]) (D':=cX D) rfl (h.xD.xC (d _) (by simpa using r)) (d _) (fun x c=>qY (by rw[qH.1 c];simp)) (qY ⟨b,m,I,j,rfl, ?_,by omega,a.put 0 _,B,i.xC (d _) (fun x c C=>?_),rfl⟩)
   ·show D.fails-1=m+1;omega
   ·rw[qH.1 C]at c;exact i.ne a (by decide) c
  have y:=qQ s;have z:=qQ (d (.int .i64 (m:Nat)));have N:(0:Int)<(m:Int)+1:=by omega
  have O:(m:Int)+1<=9223372036854775807:=by omega
  have P:(m:Int)+1-1=(m:Int):=by omega
  clear h f e c0 c1 c2 l o q s d a i F H r;go_enter func188,ntmps188;go_wp2;go_ret;exact⟨rfl,y.out,z.out.more (fun x c=>qX (by rw[qH.1 c];simp))⟩
theorem rR(h:PAt w base g mb vF E K D)(i:y8 D)(a:yQ D=false):Calls prog 188 #[ptr g] w (qXJ w base g mb E (uf D D.keep)):=by
 obtain⟨c0,c1,c2,u,v,y,I⟩:=h.cells;rcases h.fail with⟨e,rfl,rfl⟩|⟨b,n,q,H,rfl,e,B,d,z,p,rfl⟩
 ·unfold yQ at a;rw[e]at a;simp at a
 ·obtain rfl:n=0:=by
   unfold yQ at a;simp at a;omega
  have c:=p.ints;have L:w.cell? ⟨b,0,none⟩=some (.int .i64 0):=d.cell 0;have M:w.cell? ⟨b,1,none⟩=some q:=d.cell 1;have f:=qXQ q (D.keep.take 400) h i c.1 (fun C x F=>h.zr x (qF _ (c.2 C x F)));rw[qXX D D.keep i.many]at f;have j:=qQ f;obtain⟨A,off,J,rfl,-⟩:=c.1.cell;generalize (D.keep.take 400).length=N at*;clear h a e c0 c1 c2 u v y d p B f i c z;go_enter func188,ntmps188;go_wp2_with fail;refine j.out.mono ?_;rintro e O⟨E',rfl,l,m,o⟩;have r:=qQ l;have s:=qQ m;have t:=qQ o;clear l m o j;go_wp2;go_ret;exact⟨E',rfl,r.out,s.out,t.out⟩
end
section
variable {w w1 w':World}{base g mb:Nat}{vF:Value}{E E':List Ent}{K:List Nat}{D D':jD}
theorem qXK(h:E'.map Ent.blocks=E.map Ent.blocks):∀x∈ku g mb E' [],x∈ku g mb E K:=by
 intro x a;rcases vd.1 a with e|e|e|e
 ·exact vd.2 (qX e)
 ·exact vd.2 (qY (qX e))
 ·cases e
 ·refine vd.2 (qY (qY (qY ?_)));have:x∈FB E':=oz.2 e;rw[B9 h]at this;exact oz.1 this
theorem Bz: g∈ku g mb E K:=vd.2 (qX rfl)
theorem QS: mb∈ku g mb E K:=vd.2 (qY (qX rfl))
theorem fF{b:Nat}(h:b∈K):b∈ku g mb E K:=vd.2 (qY (qY (qX h)))
theorem cg{b:Nat}{x:Ent}(a:x∈E)(h:b∈x.blocks):b∈ku g mb E K:=vd.2 (qY (qY (qY ⟨x,a,h⟩)))
theorem qXV: ∀x∈g::FB E,x∈ku g mb E K:=by
 intro x a;rcases qL.1 a with rfl|a
 ·exact Bz
 ·obtain⟨y,c,b⟩:=oz.1 a;exact cg c b
theorem bh(h:PAt w base g mb vF E K D)(v:Value):yY gg base g (ku g mb E K) w v D (.returned v) w:=⟨_,rfl,h.at,fun _ a=>qX a,jH.refl _ _⟩
theorem mG(h:PAt w' base g mb vF E K D')(a:jH (ku g mb E K) w w')(v:Value):yY gg base g (ku g mb E K) w v D' (.returned v) w':=⟨_,rfl,h.at,fun _ b=>qX b,a⟩
theorem rS{d:Value}(h:PAt w' base g mb d E' [] D')(b:E'.map Ent.blocks=E.map Ent.blocks)(c:jH (g::FB E) w w')(v:Value):yY gg base g (ku g mb E K) w v D' (.returned v) w' :=
 ⟨_,rfl,h.at,fun x a=>qX (qXK b x a),c.more (fun x a=>qX (qXV x a))⟩
theorem yY.after{F G:List Nat}{v:Value}{e:Ending}(h:yY gg base g G w1 v D' e w')(b:jH F w w1)(a:∀x∈G,x∈F∨w.1.size<=x):yY gg base g F w v D' e w':=by
 obtain⟨c,d,f,i,j⟩:=h;refine⟨c,d,f,fun x l=>?_,b.trans j a⟩;rcases i x l with h|h
 ·exact a x h
 ·exact qY (by have:=b.size;omega)
theorem Bj(h:PAt w base g mb vF E K D):Calls prog 151 #[ptr g] w (X0 (.bool (!D.down)) w):=by
 obtain⟨c0,c1,c2,b,c,d,f⟩:=h.cells;have i:=qQ (mU c0);cases a:D.down
 all_goals
  rw[a]at b;clear a h c1 c2 c d f c0;go_enter func151,ntmps151;go_wp2_with fail;refine X5 i.out ?_;go_wp2;go_ret;exact⟨rfl,rfl⟩
theorem qXY(h:PAt w base g mb vF E K D):Calls prog 12 #[ptr g] w (X0 (.int .i64 (D.count:Nat)) w):=by
 obtain⟨c0,c1,c2,a,f,b,c⟩:=h.cells;have d:=qQ (mU c0);clear h c1 c2 a b c c0;go_enter func12,ntmps12;go_wp2_with fail;refine X5 d.out ?_;go_wp2;go_ret;exact⟨rfl,rfl⟩
theorem qXU(h:PAt w base g mb vF E K D):Calls prog 75 #[ptr g] w (X0 (.int .i64 (D.xB:Nat)) w):=by
 obtain⟨c0,c1,c2,a,b,f,c⟩:=h.cells;have d:=qQ (mU c0);clear h c1 c2 a b c c0;go_enter func75,ntmps75;go_wp2_with fail;refine X5 d.out ?_;go_wp2;go_ret;exact⟨rfl,rfl⟩
theorem qXG(h:PAt w base g mb vF E K D)(i:y8 D)(n:Tw)(r:n.size<=maxLen):Calls prog 129 #[ptr g,n] w (X0 (.tuple #[.int .i64 ((jk D n).1:Nat),err (jk D n).2]) w):=by
 unfold jk;cases a:D.down
 ·by_cases d:j8 D.l n<D.l.length
  ·obtain⟨x,p,o,q⟩:=nD h d;rw[o];dsimp only[Bool.false_eq_true,if_false];have c:=qQ (o8 h a p (by rw[q];exact r));rw[q]at c;have j:=h.xM x (qM p);obtain⟨t,_,_,_⟩:=j.cells;obtain⟨A,y,s,u,v,_⟩:=mQ j.2.2;rw[s]at t;have z:=(i.x8 x.f (qM o)).2;clear h i p o q j s d a u v;generalize x.f.data.size=m at*;generalize x.b=b at*;go_enter func129,ntmps129;go_wp2_with fail;refine X5 c.out ?_;go_wp2;go_ret2;exact⟨rfl,rfl⟩
  ·have c:=qQ (oq h a d r);rw[Kl d];clear h i d a;go_enter func129,ntmps129;go_wp2_with fail;refine X5 c.out ?_;go_wp2;go_ret2;exact⟨rfl,rfl⟩
 ·have c:=qQ (ox h a n);clear h i a;go_enter func129,ntmps129;go_wp2_with fail;refine X5 c.out ?_;go_wp2;go_ret2;exact⟨rfl,rfl⟩
end
end
section
open Go.RowKit Go.Maps
def uM(E:List Ent)(left:Lit->Bool):Nat:=(E.map (fun x=>if left (yF x.f.name) then 0 else x.f.data.size)).sum
theorem rq(x:Ent)(E:List Ent)(left:Lit->Bool):uM (x::E) left=(if left (yF x.f.name) then 0 else x.f.data.size)+uM E left:=by unfold uM;rw[List.map_cons,List.sum_cons]
theorem qXW{E:List Ent}{left:Lit->Bool}(h:∀x∈E,left (yF x.f.name)=true):uM E left=0:=by
 induction E with
 | nil=>rfl
 | cons x E b =>
   rw[rq,qV (h x (by simp)),b (fun y a=>h y (by simp[a]))]
theorem qXA{E:List Ent}{left:Lit->Bool}(h:∀b,left b=false):uM E left=jM (E.map Ent.f):=by
 induction E with
 | nil=>rfl
 | cons x E a =>
   rw[rq,h,a,List.map_cons,ny];rfl
theorem qXB{E:List Ent}{a b:Lit->Bool}(h:∀x∈E,a (yF x.f.name)=b (yF x.f.name)):uM E a=uM E b:=by
 unfold uM;congr 1;apply List.map_congr_left;intro x c;rw[h x c]
theorem Bk(E:List Ent)(left:Lit->Bool):uM E left<=jM (E.map Ent.f):=by
 induction E with
 | nil=>exact qK _
 | cons x E a =>
   rw[rq,List.map_cons,ny];have:(if left (yF x.f.name) then 0 else x.f.data.size)<=x.f.data.size:=(by split<;>omega);omega
theorem qXC{E:List Ent}(i:E.Pairwise (fun x y=>x.f.name≠y.f.name)){left:Lit->Bool}{x:Ent}(a:x∈E)(d:left (yF x.f.name)=true):uM E (fun z=>left z&&!z.sameKey (yF x.f.name))=uM E left+x.f.data.size:=by
 induction E with
 | nil=>cases a
 | cons y E o =>
   obtain⟨b,c⟩:=xU.1 i;rw[rq,rq];have l:(yF x.f.name).sameKey (yF x.f.name)=true:=WideAt.sameKey_self (GK _);rcases qL.1 a with rfl|a
   ·rw[d,l]
    have j:uM E (fun z=>left z&&!z.sameKey (yF x.f.name))=uM E left:=qXB (fun y m=>by
     rw[sameKey_ne (fun e=>b y m (oP e).symm)];simp)
    rw[j];show x.f.data.size+uM E left=0+uM E left+x.f.data.size;omega
   ·rw[o c a,sameKey_ne (fun e=>b x a (oP e))];simp only[Bool.not_false,Bool.and_true];omega
def QT: Option Nat->Value
 | none=>.pointer none
 | some b=>.pointer (some ⟨b,0,none⟩)
theorem qXD(a:Value)(c:Lit)(h:keyOf prog 9 a=some c):∃x:List UInt8,a=encStr x:=by
 obtain⟨x,b,_⟩:=Maps.keyOf_str Tryz.underlying9 h;exact⟨x,b⟩
theorem qXE(v:Value)(y:DataW Unit × List MemPlace)(h:gC v=some y):∃c,v=QT c:=by
 rcases QJ h with⟨rfl,_⟩|⟨b,rfl,_⟩
 ·exact⟨none,rfl⟩
 ·exact⟨some b,rfl⟩
section
variable {w:World}{base g mb:Nat}{vF:Value}{E:List Ent}{K:List Nat}{D:jD}
theorem qXF{o:DataW Unit}(hi:fC o (E.map Ent.nb)){x:List UInt8}{l:Lit}(F:keyOf prog 9 (encStr x)=some l){c:Option Nat}{y:DataW Unit × List MemPlace}(C:gC (QT c)=some y)(j:∀J,o.atKey l J=y.1):
  ∃z∈E,l=yF z.f.name/\c=some z.b:=by
 obtain⟨m,_,rfl,_⟩:=Maps.keyOf_str Tryz.underlying9 F;have s:=Maps.has_true_of_atKey j;have e:(Lit.string m)=yF ⟨m.toArray⟩:=by unfold yF;simp
 rw[e]at s j ⊢;obtain⟨p,u,H⟩:=hi.mem s;obtain⟨z,I,rfl⟩:=qP.1 u;have t:z.f.name=⟨m.toArray⟩:=H;refine⟨z,I,by rw[t], ?_⟩;have A:=hi.yes _ u .nil;have r:=j .nil;rw[<-t]at r;have a:y.1=.lit (.int .i64 (z.b:Int)):=r.symm.trans A;rcases QJ C with⟨d,i⟩|⟨b,d,i⟩
 ·rw[i]at a;simp only[DataW.lit.injEq,Lit.int.injEq,true_and]at a;omega
 ·rw[i]at a;simp only[DataW.lit.injEq,Lit.int.injEq,true_and]at a;have B:b=z.b:=by omega
  cases c with
  | none=>cases (show Value.pointer none=.pointer (some ⟨b,0,none⟩) from d)
  | some v =>
    have q:Value.pointer (some ⟨v,0,none⟩)=.pointer (some ⟨b,0,none⟩):=d;simp only[Value.pointer.injEq,Option.some.injEq,Addr.mk.injEq,and_true]at q;rw[q,B]
def J2(w:World)(D:jD)(e:Ending)(w':World):Prop:=e=.returned (.int .i64 ((D.cap:Int)-(jM D.l:Nat)))/\jH [] w w'
theorem Bv(h:PAt w base g mb vF E K D)(p:y8 D):Calls prog 177 #[ptr g] w (J2 w D):=by
 obtain⟨c0,c1,c2,c3,c4,c5,c6⟩:=h.cells;have hn:=qQ (mU c0);obtain⟨n,d,P,o⟩:=h.map
 have Q:E.Pairwise (fun x y=>x.f.name≠y.f.name):=by
  have:=GJ h.xH;rw[h.xN]at this;exact(List.pairwise_map (f:=Ent.f) (R:=fun x y=>x.name≠y.name)).1 this
 have S:jM (E.map Ent.f)<=1048576:=by rw[<-h.xN];exact p.used
 have H:=p.cap;have M:=h.xN;have Y:=qQ h.xM;have Z:=qQ o;have ab:=qQ Q;have j:=qQ S;have aa:=qQ M;have X:=qQ H;have ad:=qQ (qXW (E:=E) (left:=Maps.has d) (fun x hx=>o.has (qP.2 ⟨x,hx,rfl⟩)));have ar:=P.lt;clear h p o Q S H M c0 c3 c4 c5 c6;go_enter func177,ntmps177;go_wp2_with fail;refine X5 hn.out ?_
 go_wp2_with (first
  | (at_range;refine wpList_range_own _ rfl _ 80 rfl 9 149 nU Tryz.underlying80 gC mb n d rfl P ?_;intro w0 al ag ap)
  | go_in)
 go_frame
 go_loopw [3] (fun v wr=>∃(left:Lit->Bool) (l:Nat),wr.ranges prog 9 gC mb w.1.size n d left l/\jH [] w wr/\v=.int .i64 ((D.cap:Int)-(uM E left:Nat)))
  (fun _ wr=>wr.rangeLeft mb w.1.size)
 case atStart=>exact⟨_,_,al,(jH.refl [] w).grown ag (fun k a=>by cases a),by rw[ad.out];simp⟩
 case round =>
  obtain⟨left,l,i,C,rfl⟩:=hrel;have B:=Bk E left;have b0:=j.out;have b2:-1048576<=(D.cap:Int)-(uM E left:Nat):=by omega
  have b3:(D.cap:Int)-(uM E left:Nat)<=1048576:=by have:=X.out;omega
  have u:=qQ C;have HB:=qQ B;clear C B b0
  go_wp2_with (first
   | (at_next;refine wpList_next_ranges _ rfl _ rfl 9 nU gC encStr QT qXD qXE mb w.1.size n d left l rfl i ?_ ?_)
   | go_in)
  ·intro _ L;have I:=qQ (qXA (E:=E) L);rw[<-aa.out]at I;generalize uM E left=s at*;clear i L;go_wp2;go_ret;exact⟨by rw[I.out];rfl,u.out⟩
  ·intro x c kl y1 y2 w1 ao V O U F q N J am af;obtain⟨z,t,rfl,rfl⟩:=qXF (y:=(y1,y2)) Z.out V U F;have r:jH [] w w1:=(u.out).grown J (fun k a=>by injection a with a;exact qY (Nat.le_of_eq a));have m:=(Y.out z t).xC r (fun b _=>by simp);obtain⟨d0,_,_,_⟩:=m.cells;obtain⟨A,an,T,-,-,-⟩:=mQ m.2.2;rw[T]at d0;have hst:=qXC ab.out t O;have ah:=Bk E (fun W=>left W&&!W.sameKey (yF z.f.name));have aq:(z.f.data.size:Int)<=1048576:=(by have:=j.out;omega);have ak:=qQ (q.left_eq);have aj:=qQ (i.left_eq);have ae:=qQ r;have ac:=qQ q;have HS:=qQ hst;have b4:-1048576<=(D.cap:Int)-(uM E left:Nat)-(z.f.data.size:Nat):=(by have:=j.out;omega);clear F q J am i m T hst ah V O U r t;have ai:=qQ N;clear N;generalize z.f.data.size=zs at*;generalize uM E left=s at*;generalize z.b=zb at*;dsimp only[QT]at af ⊢;go_wp2;go_roundw
   case rel=>exact⟨_,_,ac.out,ae.out,by rw[HS.out];exact Db (by omega)⟩
   case measure=>rw[ak.out,aj.out];exact ai.out
end
end
section
open Go.RowKit
theorem By{l:List jI}{k:Nat}{f:jI}(h:l[k]? = some f)(g:jI->jI):kN l k g=l.set k (g f):=by
 apply xV;intro j;rw[Kh,List.getElem?_set];have b:=(qO.1 h).1;by_cases e:j=k
 ·subst e;rw[qV rfl,qV rfl,qV b,h];rfl
 ·rw[qZ e,qZ (fun a=>e a.symm)]
section
variable {w w1 w':World}{base g mb:Nat}{vF:Value}{E E':List Ent}{K G:List Nat}{D D':jD}
theorem qXH(h:PAt w base g mb vF E K D){k:Nat}{x:Ent}(o:E[k]? = some x)(x':Ent)(a:x'.b=x.b)(t:x'.f.name=x.f.name)(p:jH G w w')(m:∀b∈G,b∈x.blocks)(s:vA w' base x')
  (q:∀b,x'.v.ownBlock=some b->x.v.ownBlock=some b∨w.1.size<=b) (v:Value) (r:D'={ D with l:=D.l.set k x'.f }):yY gg base g (ku g mb E K) w v D' (.returned v) w':=by
 subst r;have d:=qM o;refine⟨_,rfl,(h.zP o x' a t p m s q).at,fun y u=>?_,p.more (fun b a=>qX (cg d (m b a)))⟩;rcases vd.1 u with e|e|e|⟨z,j,i⟩
 ·exact qX (vd.2 (qX e))
 ·exact qX (vd.2 (qY (qX e)))
 ·exact qX (fF e)
 ·rcases List.mem_or_eq_of_mem_set j with j|rfl
  ·exact qX (cg j i)
  ·simp only[Ent.blocks,List.mem_cons,Option.mem_toList]at i;rcases i with e|e
   ·exact qX (cg d (by rw[e,a];simp[Ent.blocks]))
   ·rcases q y e with c|c
    ·exact qX (cg d (by simp[Ent.blocks,c]))
    ·exact qY c
theorem qXI{D E:jD}(h:yQ D=true):yI D E=(0, { E with fails:=D.fails-1 }):=by unfold yI;rw[qV h]
theorem qXL{D E:jD}(h:yQ D=false):yI D E=(61,uf D D.keep):=by unfold yI;rw[h];rfl
theorem qXM{D:jD}{n:Tw}(a:D.down=false)(b:j8 D.l n<D.l.length):kZ D n=yI D { D with l:=kN D.l (j8 D.l n) (fun f=>{ f with synced:=f.data.size }) }:=by unfold kZ;rw[a,qV b];rfl
theorem qXN{D:jD}{n:Tw}(a:D.down=false)(b:¬j8 D.l n<D.l.length):kZ D n=(4,D):=by unfold kZ;rw[a,qZ b];rfl
theorem qXO{D:jD}{n:Tw}(a:D.down=true):kZ D n=(61,D):=by unfold kZ;rw[a];rfl
theorem qXP(h:PAt w base g mb vF E K D)(o:y8 D)(n:Tw)(I:n.size<=maxLen):Calls prog 160 #[ptr g,n] w (yY gg base g (ku g mb E K) w (err (kZ D n).1) (kZ D n).2):=by
 have C:=qQ h;cases a:D.down
 ·by_cases d:j8 D.l n<D.l.length
  ·obtain⟨x,u,t,y⟩:=nD h d;have i:=qQ (o8 h a u (by rw[y];exact I));rw[y]at i;rw[qXM a d];generalize j8 D.l n=k at*;cases m:yQ D
   ·have r:=qQ (rR h o m);rw[qXL m];generalize uf D D.keep=S at*;clear h o u t y d a m;go_enter func160,ntmps160;go_wp2_with fail;refine X5 i.out ?_;go_wp2_with fail;refine r.out.mono ?_;rintro e R⟨E',rfl,j,q,H⟩;have z:=qQ j;have B:=qQ q;have M:=qQ H;clear j q H r;go_wp2;go_ret;exact rS z.out B.out M.out _
   ·have r:=qQ (rP h m);rw[qXI m];have L:=(o.x8 x.f (qM t)).2;have F:=qQ u;have N:=qQ t;have P:=qQ L;clear h o u t y d a m L;go_enter func160,ntmps160;go_wp2_with fail;refine X5 i.out ?_;go_wp2_with fail;refine r.out.mono ?_;rintro e R⟨rfl,j,q⟩;have s:=j.xM x (qM F.out);obtain⟨Q,U,V,W⟩:=s.cells;obtain⟨A,T,J,-,-,-⟩:=mQ s.2.2;rw[J]at Q;have X:=P.out;have O:=qQ (s.zG x.f.data.size);have z:=qQ j;have B:=qQ q;clear j q r s J;go_wp2;go_ret;refine yY.after (qXH (G:=[x.b]) z.out F.out ⟨⟨x.f.name,x.f.data,x.f.data.size⟩,x.b,x.v⟩ rfl rfl ((jH.refl _ _).setCell (p:=⟨x.b,1,none⟩) (qX (qH.2 rfl)) _) (fun b c=>by rw[qH.1 c];simp[Ent.blocks]) O.out (fun b c=>qX c) _ ?_) (B.out.more (fun b c=>qX (fF c))) (fun b c=>qX c);show _=({ cX D with l:=D.l.set k _ }:jD)
    rw[By N.out];rfl
  ·have i:=qQ (oq h a d I);rw[qXN a d];clear h o d a;go_enter func160,ntmps160;go_wp2_with fail;refine X5 i.out ?_;go_wp2;go_ret;exact bh C.out _
 ·have i:=qQ (ox h a n);rw[qXO a];clear h o a;go_enter func160,ntmps160;go_wp2_with fail;refine X5 i.out ?_;go_wp2;go_ret;exact bh C.out _
end
section
variable {w w1 w':World}{base g mb:Nat}{vF:Value}{E E':List Ent}{K G:List Nat}{D D':jD}
theorem qXR{n s:Tw}(a:D.down=true):jc D n s=(61,D):=by unfold jc;rw[a];rfl
theorem qXS{n s:Tw}(a:D.down=false)(b:¬j8 D.l n<D.l.length):jc D n s=(4,D):=by unfold jc;rw[a,qZ b];rfl
theorem qXT{n s:Tw}(a:D.down=false)(b:j8 D.l n<D.l.length)(c:D.cap<jM D.l+s.size):jc D n s=(60,D):=by unfold jc;rw[a,qV b,qV c];rfl
theorem qX0{n s:Tw}(a:D.down=false)(b:j8 D.l n<D.l.length)(d:¬D.cap<jM D.l+s.size)(c:yQ D=true):jc D n s=(0,cX (uP D n s)):=by unfold jc;rw[a,qV b,qZ d,qV c];rfl
theorem qX1{n s:Tw}(a:D.down=false)(b:j8 D.l n<D.l.length)(d:¬D.cap<jM D.l+s.size)(c:yQ D=false):jc D n s=(61,uf (uP D n s) D.keep):=by unfold jc;rw[a,qV b,qZ d,c];rfl
theorem y8.app{D:jD}(h:y8 D){k:Nat}{f:jI}(c:D.l[k]? = some f)(s:Tw)(d:jM D.l+s.size<=D.cap):y8 { D with l:=kN D.l k (fun f=>{ f with data:=f.data++s }) }:=by
 have b:sj { D with fails:=0 }:=⟨h.x8,h.many,h.used,h.cap,qI _⟩
 have a:=b.app (k:=k) (f:=f) c s d;exact⟨a.x8,a.many,a.used,a.cap⟩
theorem qX2{k:Nat}{x:Ent}(j:E[k]? = some x){x':Ent}(i:x'.b=x.b){z:Nat}(l:∀b,x'.v.ownBlock=some b->x.v.ownBlock=some b∨z<=b):∀y∈ku g mb (E.set k x') K,y∈ku g mb E K∨z<=y:=by
 have f:=qM j;intro y m;rcases vd.1 m with e|e|e|⟨z,d,a⟩
 ·exact qX (vd.2 (qX e))
 ·exact qX (vd.2 (qY (qX e)))
 ·exact qX (fF e)
 ·rcases List.mem_or_eq_of_mem_set d with d|rfl
  ·exact qX (cg d a)
  ·simp only[Ent.blocks,List.mem_cons,Option.mem_toList]at a;rcases a with e|e
   ·exact qX (cg f (by rw[e,i];simp[Ent.blocks]))
   ·rcases l y e with c|c
    ·exact qX (cg f (by simp[Ent.blocks,c]))
    ·exact qY c
theorem qX3(h:PAt w base g mb vF E K D){k:Nat}{x:Ent}(o:E[k]? = some x){a:Value}{s:Tw}(i:bq w1 base a (x.f.data++s))(j:w.grownBy w1 x.v.ownBlock)(q:a.ownBlock=x.v.ownBlock∨a.ownBlock=some w.1.size):
  vA (w1.setCell ⟨x.b,0,none⟩ a) base ⟨⟨x.f.name,x.f.data++s,x.f.synced⟩,x.b,a⟩/\jH x.blocks w (w1.setCell ⟨x.b,0,none⟩ a)/\w1.cell? ⟨x.b,0,none⟩=some x.v/\w1.frozen? ⟨x.b,0,none⟩=false:=by
 have c:=h.xM x (qM o);have m:jH x.blocks w w1:=(jH.refl _ w).grown j (fun k l=>qX (by simp[Ent.blocks,l]))
 have d:jF w1 x.b 215 #[x.v,x.f.synced]:=by
  refine(j.block x.b c.1.lt (fun e=>?_)).trans c.1;exact vJ c.2.2 c.1 (by decide) e.symm
 exact⟨⟨d.put 0 a,c.2.1,vu i (vJ i d (by decide)) _⟩,m.setCell (p:=⟨x.b,0,none⟩) (qX (by simp[Ent.blocks])) _,d.cell 0,d.frozen 0⟩
theorem qX4(h:PAt w base g mb vF E K D)(d:y8 D)(n s:Tw)(hn:n.size<=maxLen)(hs:s.size<=1099511627776):Calls prog 203 #[ptr g,n,s] w (yY gg base g (ku g mb E K) w (err (jc D n s).1) (jc D n s).2):=by
 have L:=qQ h;cases a:D.down
 ·by_cases j:j8 D.l n<D.l.length
  ·obtain⟨x,o,F,O⟩:=nD h j;have p:=qQ (o8 h a o (by rw[O];exact hn));rw[O]at p;have z:=qQ (Bv h d);by_cases I:D.cap<jM D.l+s.size
   ·rw[qXT a j I];have q1:(D.cap:Int)-(jM D.l:Nat)<(s.size:Int):=(by omega);have q2:=d.cap;have q3:=d.used;clear h d o F O j a I;unfold J2 at z;generalize jM D.l=u at*;go_enter func203,ntmps203;go_wp2_with fail;refine X5 p.out ?_;go_wp2_with fail;refine KG z.out fun w2 q=>?_;have HT:=qQ q;clear q z;go_wp2;go_ret;exact mG (L.out.xC HT.out (fun _ _=>by simp)) (HT.out.more (fun x o=>by cases o)) _
   ·have q1:decide ((D.cap:Int)-(jM D.l:Nat)<(s.size:Int))=false:=qA (by omega);have q2:=d.cap;have q3:=d.used;have al:s.size<=1048576:=(by omega);have ax:=qQ al;have V:=d.app F s (by omega);have ap:=(d.x8 x.f (qM F)).2;have T:uP D n s={ D with l:=kN D.l (j8 D.l n) (fun f=>{ f with data:=f.data++s }) }:=rfl;rw[<-T]at V;have ae:uP D n s={ D with l:=D.l.set (j8 D.l n) ⟨x.f.name,x.f.data++s,x.f.synced⟩ }:=(by rw[T,By F]);have ai:yQ (uP D n s)=yQ D:=rfl;have ak:(uP D n s).keep=D.keep:=rfl;have hA:=qX0 (s:=s) a j I;have hB:=qX1 (s:=s) a j I;have aw:=qQ V;have HA:=qQ hA;have HB:=qQ hB;have aa:=qQ ae;have B:=qQ o;have ay:=qQ ap;have HG:=qQ ai;have av:=qQ ak;clear h d o F O j a I al V hA hB T ae ap ai ak;unfold J2 at z;generalize j8 D.l n=k at*;generalize jM D.l=u at*;go_enter func203,ntmps203;go_wp2_with fail;refine X5 p.out ?_;go_wp2_with fail;refine KG z.out fun w2 q=>?_;have r:=L.out.xC q (fun _ _=>by simp);have N:=r.xM x (qM B.out);have af:base<=w2.1.size:=(by have:=r.gb;have:=r.xD.lt;omega);obtain⟨J,w3,S,U,aj,Y⟩:=Sd N.2.2 s (by have:=ay.out;have:=ax.out;omega) af 154;obtain⟨ag,X,aB,aC⟩:=qX3 r B.out U aj Y;obtain⟨d0,d1,g0,g1⟩:=N.cells;obtain⟨A,az,hv,-,-,-⟩:=mQ N.2.2;obtain⟨A',aA,ao,-,-,-⟩:=mQ U
    have W:∀b,J.ownBlock=some b->x.v.ownBlock=some b∨w2.1.size<=b:=fun b i=>by
     rcases Y with c|c
     ·exact qX (c ▸ i)
     ·rw[c]at i;injection i with i;exact qY (Nat.le_of_eq i)
    have M:=r.zP B.out ⟨⟨x.f.name,x.f.data++s,x.f.synced⟩,x.b,J⟩ rfl rfl X (fun b i=>i) ag W;have hD:({ D with l:=D.l.set k ⟨x.f.name,x.f.data++s,x.f.synced⟩ }:jD)=uP D n s:=aa.out.symm;dsimp only at M;rw[hD]at M;have am:=qX2 (g:=g) (mb:=mb) (K:=K) B.out (x':=⟨⟨x.f.name,x.f.data++s,x.f.synced⟩,x.b,J⟩) rfl W;have ad:jH (ku g mb E K) w (w3.setCell ⟨x.b,0,none⟩ J):=(q.more (fun x o=>by cases o)).trans X (fun b i=>qX (cg (qM B.out) i));have an:∀y∈ku g mb (E.set k ⟨⟨x.f.name,x.f.data++s,x.f.synced⟩,x.b,J⟩) K,y∈ku g mb E K∨w.1.size<=y:=fun y Z=>(am y Z).imp id (fun c=>qR q.size c)
    have HP:=qQ M;have ac:=qQ ad;have ab:=qQ an;rw[hv]at S d0;have aq:(x.f.data++s).size=x.f.data.size+s.size:=qx;rw[aq]at ao;subst ao;clear r N af U aj Y ag X hv W M hD am ad an q z aq g1 d1 aa;have ar:=qQ S;clear S;go_wp2_with (first|(at_builtin;refine yK rfl _ _ rfl rfl rfl ar.out ?_)|fail);have m:yQ D=true∨yQ D=false:=(by cases yQ D<;>simp);rcases m with m|m
    ·have t:=qQ (rP HP.out (HG.out.trans m));have Q:=qQ (HA.out m);clear m;go_wp2_with fail;refine t.out.mono ?_;rintro e w4⟨rfl,C,H⟩;have P:=qQ C;have R:=qQ H;clear C H t;go_wp2;go_ret;rw[Q.out];exact yY.after (mG P.out (R.out.more (fun y Z=>qX (fF Z))) _) ac.out ab.out
    ·have t:=qQ (rR HP.out aw.out (HG.out.trans m));have Q:=qQ (HB.out m);rw[av.out]at t;clear m;go_wp2_with fail;refine t.out.mono ?_;rintro e w4⟨E4,rfl,C,ah,H⟩;have P:=qQ C;have au:=qQ ah;have R:=qQ H;clear C ah H t;go_wp2;go_ret;rw[Q.out];exact yY.after (rS P.out au.out R.out _) ac.out ab.out
  ·have p:=qQ (oq h a j hn);rw[qXS a j];clear h d j a;go_enter func203,ntmps203;go_wp2_with fail;refine X5 p.out ?_;go_wp2;go_ret;exact bh L.out _
 ·have p:=qQ (ox h a n);rw[qXR a];clear h d a;go_enter func203,ntmps203;go_wp2_with fail;refine X5 p.out ?_;go_wp2;go_ret;exact bh L.out _
end
section
variable {w w1 w':World}{base g mb:Nat}{vF:Value}{E E':List Ent}{K G:List Nat}{D D':jD}
abbrev qX5(base g:Nat)(F:List Nat)(w:World)(r:Tw × Nat × jD):Ending->World->Prop:=yY gg base g F w (.tuple #[r.1,err r.2.1]) r.2.2
theorem qX6(h:PAt w base g mb vF E K D)(y:y8 D)(ae:D.count<=1099511627776)(n:Tw)(a k:Int)(hn:n.size<=maxLen)(t:(Lit.int .i64 a).wf=true)(u:(Lit.int .i64 k).wf=true):Calls prog 130 #[ptr g,n,a,k] w (qX5 base g (ku g mb E K) w (vE D n a k)):=by
 have HH:=qQ h;have s:=qQ (Bj h);cases d:D.down
 case true =>
  have j:=qQ (ox h d n);rw[Hf d];rw[d]at s;clear h y d t u;go_enter func130,ntmps130;go_wp2_with fail;refine X5 s.out ?_;go_wp2_with fail;refine X5 j.out ?_;go_wp2;go_ret2;exact bh HH.out _
 obtain⟨c0,c1,c2,L,c4,M,N⟩:=h.cells;have f4:=h.xD.frozen 4;have i:PAt (w.setCell ⟨g,4,none⟩ (.int .i64 ((D.count:Int)+1))) base g mb vF E K (sk D):=h.jG (D.count+1);have I:=qQ i;have J:=qQ (show jH (ku g mb E K) w (w.setCell ⟨g,4,none⟩ (.int .i64 ((D.count:Int)+1))) from(jH.refl _ _).setCell (p:=⟨g,4,none⟩) (qX Bz) _);rw[d]at s;by_cases r:j8 D.l n<D.l.length
 case neg =>
  have j:=qQ (oq i d r hn);rw[Hh d r];clear h i y r d t u c0 c1 c2 L M N;go_enter func130,ntmps130;go_wp2_with fail;refine X5 s.out ?_;go_wp2_with fail;refine X5 j.out ?_;go_wp2;go_ret2;exact mG I.out J.out _
 obtain⟨x,F,v,H⟩:=nD h r;have j:=qQ (o8 i d F (by rw[H];exact hn));rw[H]at j;have o:=i.xM x (qM F);have hz:=(y.x8 x.f (qM v)).2;obtain⟨U,_,_,_⟩:=o.cells;have S:=bounds_i64 t;have T:=bounds_i64 u;by_cases C:a<0∨k<0∨(x.f.data.size:Int)<a∨(x.f.data.size:Int)-a<k
 ·rw[Hl d v C];obtain⟨A,B,hv,-,-,-⟩:=mQ o.2.2;rw[hv]at U;have aa:a<0∨(0<=a/\k<0)∨(0<=a/\0<=k/\(x.f.data.size:Int)-a<k):=by omega
  clear h i y r d t u c0 c1 c2 L M N o hv F v H C;generalize x.f.data.size=z at*;generalize x.b=xb at*;rcases aa with q|⟨q1,q⟩|⟨q1,q2,q⟩
  case' inl =>
   have R:decide (a<0)=true:=qB q
  case' inr.inl =>
   have R:decide (a<0)=false:=qA (by omega);have V:decide (k<0)=true:=qB q
  case' inr.inr =>
   have R:decide (a<0)=false:=qA (by omega);have V:decide (k<0)=false:=qA (by omega);have X:decide ((z:Int)-a<k)=true:=qB q;have t4:-9223372036854775808<=(z:Int)-a:=(by omega);have t5:(z:Int)-a<=9223372036854775807:=by omega
  all_goals
   go_enter func130,ntmps130;go_wp2_with fail;refine X5 s.out ?_;go_wp2_with fail;refine X5 j.out ?_;go_wp2;go_ret2;exact mG I.out J.out _
 ·rw[Hn d v C];obtain⟨p,rfl⟩:∃p:Nat,a=p:=⟨a.toNat,by omega⟩
  obtain⟨m,rfl⟩:∃m:Nat,k=m:=⟨k.toNat,by omega⟩
  rw[qm,qm];have Q:p+m<=x.f.data.size:=by omega
  have R:decide ((p:Int)<0)=false:=qA (by omega);have V:decide ((m:Int)<0)=false:=qA (by omega);have X:decide ((x.f.data.size:Int)-(p:Int)<(m:Int))=false:=qA (by omega);have t4:(p:Int)+(m:Int)<=(x.f.data.size:Int):=by omega
  have t5:(x.f.data.size:Int)<=1048576:=by omega
  have t6:(0:Int)<=(p:Int):=by omega
  have t7:(p:Int)<=(p:Int)+(m:Int):=by omega
  have t8:((p:Int)+(m:Int)).toNat=p+m:=by omega
  have t9:p+m-p=m:=by omega
  rcases BN o.2.2 with⟨e,e2⟩|⟨b,B,e,n1,n2,ac,ad⟩
  ·obtain rfl:p=0:=(by omega);obtain rfl:m=0:=by omega
   have O:x.f.data.extract 0 (0+0)=ByteArray.empty:=by
    apply qi;rw[ByteArray.data_extract];apply Array.eq_empty_of_size_eq_zero;rw[Array.size_extract];omega
   rw[O];rw[e]at U;have Y:=fun W=>GY W none 0
   clear h i y r d t u c0 c1 c2 L M N o e F v H C O R V X t4 t5 t6 t7 t8 t9 S T Q;go_enter func130,ntmps130;go_wp2_with fail;refine X5 s.out ?_;go_wp2_with fail;refine X5 j.out ?_;go_wp2;go_ret2;exact mG I.out J.out _
  ·have P:=o.2.2;rw[e]at U P;unfold maxLen at n2;have af:(p:Int)+(m:Int)<=(B:Int):=(by omega);by_cases Z:m=0
   ·subst Z
    have O:x.f.data.extract p (p+0)=ByteArray.empty:=by
     apply qi;rw[ByteArray.data_extract];apply Array.eq_empty_of_size_eq_zero;rw[Array.size_extract];omega
    rw[O];have Y:=fun W A c=>GY W A c
    have ag:(p:Int)<=(B:Int):=(by omega);have X:decide ((x.f.data.size:Int)-(p:Int)<0)=false:=qA (by omega);by_cases ab:B=p
    all_goals
     clear h i y r d t u c0 c1 c2 L M N o e F v H C O S T Q P;go_enter func130,ntmps130;go_wp2_with fail;refine X5 s.out ?_;go_wp2_with fail;refine X5 j.out ?_;go_wp2;go_ret2;exact mG I.out J.out _
   ·have Y:=fun c=>Sf P Q c
    have ab:¬B=p:=(by omega);have ah:(p:Int)<=(B:Int):=(by omega);clear h i y r d t u c0 c1 c2 L M N o e F v H C S T Q P Z;go_enter func130,ntmps130;go_wp2_with fail;refine X5 s.out ?_;go_wp2_with fail;refine X5 j.out ?_;go_wp2;go_ret2;exact mG I.out J.out _
end
def dA(E:List Ent)(x:Ent):List Ent:=E.take (yV (E.map Ent.f) x.f.name)++[x]++E.drop (yV (E.map Ent.f) x.f.name)
def uQ(E:List Ent)(k:Nat):List Ent:=E.take k++E.drop (k+1)
def cd(E:List Ent)(n:Tw):List Ent:=if j8 (E.map Ent.f) n<E.length then uQ E (j8 (E.map Ent.f) n) else E
section
variable {E:List Ent}{x:Ent}{k:Nat}{n:Tw}
theorem Bu: (dA E x).map Ent.f=kL (E.map Ent.f) x.f:=by
 unfold dA kL;rw[List.map_append,List.map_append,List.map_take,List.map_drop];rfl
theorem Q0: (uQ E k).map Ent.f=kx (E.map Ent.f) k:=by
 unfold uQ kx;rw[List.map_append,List.map_take,List.map_drop]
theorem Bg: (cd E n).map Ent.f=yT (E.map Ent.f) n:=by
 unfold cd yT;rw[qz];split
 ·exact Q0
 ·rfl
theorem dh: (dA E x).Perm (x::E):=by
 unfold dA;rw[qn];have h:(List.take (yV (E.map Ent.f) x.f.name) E++([x]++List.drop (yV (E.map Ent.f) x.f.name) E)).Perm (([x]++List.drop (yV (E.map Ent.f) x.f.name) E)++List.take (yV (E.map Ent.f) x.f.name) E):=List.perm_append_comm;refine h.trans ?_;rw[qn];refine List.Perm.cons x ?_;have a:(List.drop (yV (E.map Ent.f) x.f.name) E++List.take (yV (E.map Ent.f) x.f.name) E).Perm (List.take (yV (E.map Ent.f) x.f.name) E++List.drop (yV (E.map Ent.f) x.f.name) E):=List.perm_append_comm;rw[qe]at a;exact a
theorem Q1(h:E[k]? = some x):E.Perm (x::uQ E k):=by
 have b:=(qO.1 h).1
 have e:E=E.take k++(x::E.drop (k+1)):=by
  have c:E.drop k=x::E.drop (k+1):=by
   rw[xJ b];congr 1;rw[qD b]at h;simpa using h
  rw[<-c,qe]
 have a:(E.take k++(x::E.drop (k+1))).Perm (x::(E.take k++E.drop (k+1))):=List.perm_middle;unfold uQ;rw[<-e]at a;exact a
theorem fH: (uQ E k).Sublist E:=by
 unfold uQ;have e:E=E.take k++E.drop k:=(qe k E).symm;have h:(E.drop (k+1)).Sublist (E.drop k):=by rw[<-List.drop_drop];exact List.drop_sublist _ _
 have a:=(List.Sublist.refl (E.take k)).append h;rw[qe]at a;exact a
theorem rz: (cd E n).Sublist E:=by
 unfold cd;split
 ·exact fH
 ·exact List.Sublist.refl _
theorem Bc{x y:Ent}(h:bx x y):bx y x:=⟨fun e=>h.1 e.symm,fun b a c=>h.2 b c a⟩
theorem Bd(h:(x::E).Pairwise bx):(dA E x).Pairwise bx:=(dh.pairwise_iff (fun {a b} c=>Bc c)).2 h
theorem qX7(d:E[k]? = some x)(h:E.Pairwise bx):(x::uQ E k).Pairwise bx:=((Q1 d).pairwise_iff (fun {a b} c=>Bc c)).1 h
def oj(E:List Ent):Prop:=E.Pairwise (fun x y=>x.f.name≠y.f.name)
theorem qX8(h:gA (E.map Ent.f)):oj E:=(List.pairwise_map (f:=Ent.f) (R:=fun x y=>x.name≠y.name)).1 (GJ h)
theorem qX9(d:E[k]? = some x)(h:oj E):oj (x::uQ E k):=((Q1 d).pairwise_iff (fun {a b} c e=>c e.symm)).1 h
theorem J3(a:E[k]? = some x)(h:oj E):∀y∈uQ E k,y.f.name≠x.f.name:=fun y b e=>(xU.1 (qX9 a h)).1 y b e.symm
theorem Bl(a:E[k]? = some x){y:Ent}(c:y∈E)(b:y.f.name≠x.f.name):y∈uQ E k:=by
 rcases qL.1 ((Q1 a).mem_iff.1 c) with rfl|h
 ·exact absurd rfl b
 ·exact h
theorem qXq(h:oj E):∀y∈cd E n,y.f.name≠n:=by
 unfold cd;split
 ·rename_i b;obtain⟨f,a,e⟩:=mS (l:=E.map Ent.f) (n:=n) (by rw[qz];exact b);rw[qu]at a;cases c:E[j8 (E.map Ent.f) n]? with
  | none=>rw[c]at a;cases a
  | some x =>
    rw[c]at a;obtain rfl:x.f=f:=(by simpa using a);intro y d;rw[<-e];exact J3 c h y d
 ·rename_i b;intro y d;exact rG (l:=E.map Ent.f) (by rw[qz];exact b) y.f (qP.2 ⟨y,d,rfl⟩)
theorem qXx{y:Ent}(c:y∈E)(i:y.f.name≠n):y∈cd E n:=by
 unfold cd;split
 ·rename_i d;obtain⟨f,a,e⟩:=mS (l:=E.map Ent.f) (n:=n) (by rw[qz];exact d);rw[qu]at a;cases b:E[j8 (E.map Ent.f) n]? with
  | none=>rw[b]at a;cases a
  | some x =>
    rw[b]at a;obtain rfl:x.f=f:=(by simpa using a);exact Bl b c (by rw[e];exact i)
 ·exact c
theorem qXz{l:List jI}(h:gA l)(n:Tw):gA (yT l n):=by
 unfold yT;split
 ·exact JX h _
 ·exact h
end
section
variable {w w1 w':World}{base g mb:Nat}{vF:Value}{E E':List Ent}{K G:List Nat}{D D':jD}
theorem PAt.nodup(h:PAt w base g mb vF E K D):((E.map Ent.nb).map (fun x=>x.1.data.toList)).Nodup:=by rw[J1 h];exact GZ h.xH
theorem PAt.zL(h:PAt w base g mb vF E K D):oj E:=qX8 (by rw[<-h.xN];exact h.xH)
theorem PAt.zQ(h:PAt w base g mb vF E K D):E.length=D.l.length:=by rw[h.xN,qz]
theorem qXj: ∀y∈ku g mb E' K,(∀z∈E',z∈E)->y∈ku g mb E K:=by
 intro y b a;rcases vd.1 b with e|e|e|⟨z,c,e⟩
 ·exact vd.2 (qX e)
 ·exact vd.2 (qY (qX e))
 ·exact fF e
 ·exact cg (a z c) e
end
section
variable {w w1 w':World}{base g mb:Nat}{vF:Value}{E E':List Ent}{K G:List Nat}{D D':jD}
theorem PAt.zg(h:PAt w base g mb vF E K D){x:Ent}(a:x∈E):x.f.name.size<=maxLen:=by
 have:=h.names x.f (by rw[h.xN];exact qP.2 ⟨x,a,rfl⟩);unfold ks at this;simp only[Bool.and_eq_true,decide_eq_true_eq]at this;unfold maxLen;omega
theorem Bm(h:PAt w base g mb vF E K D){k:Nat}{x:Ent}(c:E[k]? = some x):∃w',(Builtin.delete_ #[80,9] 0 #[.map (some mb),x.f.name]).run prog w=.ok (.tuple #[]) w'/\PAt w' base g mb vF (uQ E k) K { D with l:=kx D.l k }/\jH [mb] w w':=by
 have p:=qM c
 obtain⟨w',o,j,d⟩:=h.map.drop (L':=(uQ E k).map Ent.nb) (h.zg p) (fun y a=>by
  obtain⟨z,b,rfl⟩:=qP.1 a;exact⟨qP.2 ⟨z,fH.subset b,rfl⟩,J3 c h.zL z b⟩) (fun y a m=>by
  obtain⟨z,b,rfl⟩:=qP.1 a;exact qP.2 ⟨z,Bl c b m,rfl⟩) 0
 refine⟨w',o,h.zX (uQ E k) _ (by rw[Q0,<-h.xN]) j d (fun y a=>h.xM y (fH.subset a)) (List.Pairwise.sublist fH h.apart) (JX h.xH k) (fun f i=>h.names f (nc i)),d⟩
theorem qXk(h:PAt w base g mb vF E K D)(o:y8 D)(n:Tw)(C:n.size<=maxLen):Calls prog 125 #[ptr g,n] w (yY gg base g (ku g mb E K) w (err (jg D n).1) (jg D n).2):=by
 have v:=qQ h;cases a:D.down
 ·by_cases c:j8 D.l n<D.l.length
  ·obtain⟨x,r,B,p⟩:=nD h c;have d:=qQ (o8 h a r (by rw[p];exact C));rw[p]at d;rw[Hp a c];generalize j8 D.l n=k at*;cases q:yQ D
   ·have m:=qQ (rR h o q);simp only[Bool.false_eq_true,if_false];generalize uf D D.keep=T at*;clear h o r B p c a q;go_enter func125,ntmps125;go_wp2_with fail;refine X5 d.out ?_;go_wp2_with fail;refine m.out.mono ?_;rintro e S⟨E',rfl,f,i,j⟩;have F:=qQ f;have s:=qQ i;have t:=qQ j;clear f i j m;go_wp2;go_ret;exact rS F.out s.out t.out _
   ·have m:=qQ (rP h q);simp only[if_true];have J:=qQ r;have I:=qQ p;clear h o r B p c a q;go_enter func125,ntmps125;go_wp2_with fail;refine X5 d.out ?_;go_wp2_with fail;refine m.out.mono ?_;rintro e S⟨rfl,f,i⟩;obtain⟨U,P,j,A⟩:=Bm f J.out;rw[I.out]at P;obtain⟨c0,c1,c2,L,M,N,O⟩:=f.cells;have t:=qQ j;have H:=qQ A;have s:=qQ i;clear f i j A m c0 c1 L M N O;go_wp2;go_ret;refine⟨_,rfl,t.out.at,fun y Q=>qX (qXj y Q (fun z R=>fH.subset R)), ?_⟩;exact(s.out.more (fun b u=>qX (fF u))).trans H.out (fun b u=>qX (by rw[qH.1 u];exact QS))
  ·have d:=qQ (oq h a c C);rw[Hr a c];clear h o c a;go_enter func125,ntmps125;go_wp2_with fail;refine X5 d.out ?_;go_wp2;go_ret;exact bh v.out _
 ·have d:=qQ (ox h a n);rw[Hs a];clear h o a;go_enter func125,ntmps125;go_wp2_with fail;refine X5 d.out ?_;go_wp2;go_ret;exact bh v.out _
end
section
variable {w w1 w':World}{base g mb:Nat}{vF:Value}{E E':List Ent}{K G:List Nat}{D D':jD}
def lG(w:World)(n:Tw):Ent:=⟨⟨n,ByteArray.empty,0⟩,w.1.size,.slice none 0 0⟩
def Q2(w:World):World:=w.alloc (.cells #[.slice none 0 0,.int .i64 0] 215)
theorem qXv(h:PAt w base g mb vF E K D)(n:Tw)(A:ks n=true)(v:n.size<=maxLen)(c:¬j8 D.l n<D.l.length)(t:D.l.length<=400):
  ∃w',(Instr.mapUpdate 80 (.map (some mb)) (.string n) (ptr w.1.size)).run prog (Q2 w)=.ok () w'/\PAt w' base g mb vF (dA E (lG w n)) K { D with l:=kL D.l ⟨n,ByteArray.empty,0⟩ }/\jH [mb] w w':=by
 have o:jH [] w (Q2 w):=(jH.refl [] w).alloc _;have i:=h.xC o (fun _ _=>by simp);have r:base<=w.1.size:=by have:=h.gb;have:=h.xD.lt;omega
 have p:vA (Q2 w) base (lG w n):=⟨jF.new w _ _,r,Sg _ _⟩
 have B:∀y∈E,y.f.name≠n:=fun y a=>rG c y.f (by rw[h.xN];exact qP.2 ⟨y,a,rfl⟩)
 have q:(lG w n::E).Pairwise bx:=xU.2 ⟨fun y a=>⟨fun e=>by
  have:=(h.xM y a).1.lt;have H:w.1.size=y.b:=e;omega,fun b j=>by cases j⟩,h.apart⟩
 obtain⟨w',C,u,m⟩:=i.map.store i.nodup (by rw[qz,h.zQ];exact t) v (b:=w.1.size) (L':=(dA E (lG w n)).map Ent.nb) (qP.2 ⟨lG w n,dh.mem_iff.2 (by simp),rfl⟩)
  (fun y a=>by
   obtain⟨z,d,rfl⟩:=qP.1 a;rcases qL.1 (dh.mem_iff.1 d) with rfl|d
   ·exact qX rfl
   ·exact qY ⟨qP.2 ⟨z,d,rfl⟩,B z d⟩)
  (fun y a _=>by
   obtain⟨z,d,rfl⟩:=qP.1 a;exact qP.2 ⟨z,dh.mem_iff.2 (by simp[d]),rfl⟩)
 have s:(lG w n).f=⟨n,ByteArray.empty,0⟩:=rfl;refine⟨w',C,i.zX (dA E (lG w n)) _ (by rw[Bu,s,<-h.xN]) u m (fun y a=>?_) (Bd q) (GX h.xH _ (fun y a=>rG c y a)) (fun f c=>?_),(o.more (fun x F=>by cases F)).trans m (fun b j=>qX j)⟩
 ·rcases qL.1 (dh.mem_iff.1 a) with rfl|a
  ·exact p
  ·exact i.xM y a
 ·rcases mT c with c|rfl
  ·exact h.names f c
  ·exact A
theorem qXy{x:Ent}{z:Nat}(d:∀b∈x.blocks,z<=b):∀y∈ku g mb (dA E x) K,y∈ku g mb E K∨z<=y:=by
 intro y c;rcases vd.1 c with e|e|e|⟨u,a,e⟩
 ·exact qX (vd.2 (qX e))
 ·exact qX (vd.2 (qY (qX e)))
 ·exact qX (fF e)
 ·rcases qL.1 (dh.mem_iff.1 a) with rfl|a
  ·exact qY (d y e)
  ·exact qX (cg a e)
theorem qXu(h:PAt w base g mb vF E K D)(j:y8 D)(n:Tw)(H:n.size<=maxLen):Calls prog 201 #[ptr g,n] w (yY gg base g (ku g mb E K) w (err (jx D n).1) (jx D n).2):=by
 have C:=qQ h;have i:=qQ (QP h);unfold lU at i;cases a:D.down
 case true =>
  rw[Ha a];rw[a]at i;clear h j a;go_enter func201,ntmps201;go_wp2_with fail;refine X5 i.out ?_;go_wp2;go_ret;exact bh C.out _
 rw[a]at i;have m:=qQ (BI n w H);cases c:ks n
 case false =>
  rw[He a c];rw[c]at m;clear h j a c;go_enter func201,ntmps201;go_wp2_with fail;refine X5 i.out ?_;go_wp2_with fail;refine X5 m.out ?_;go_wp2;go_ret;exact bh C.out _
 rw[c]at m;obtain⟨c0,c1,c2,o,p,r,s⟩:=h.cells;by_cases d:j8 D.l n<D.l.length
 case pos =>
  obtain⟨x,I,M,R⟩:=nD h d;rw[Hi a c d];have M:=h.map.look H (b:=x.b) (qP.2 ⟨x,qM I,by unfold Ent.nb;rw[R]⟩);clear h j a c d I R c0 c1 o p r s;generalize x.b=xb at*;go_enter func201,ntmps201;go_wp2_with fail;refine X5 i.out ?_;go_wp2_with fail;refine X5 m.out ?_;go_wp2;go_ret;exact bh C.out _
 have M:=h.map.zk H (fun y hy=>by
  obtain⟨x,I,rfl⟩:=qP.1 hy;exact rG d x.f (by rw[h.xN];exact qP.2 ⟨x,I,rfl⟩))
 have Q:=fun ts=>h.map.len h.nodup ts
 rw[qz,h.zQ]at Q;have Y:=j.many;by_cases N:400<=D.l.length
 case pos =>
  rw[Ho a c d N];have q:decide ((400:Int)<=(D.l.length:Int))=true:=qB (by omega);clear h j a c d c0 c1 o p r s;go_enter func201,ntmps201;go_wp2_with fail;refine X5 i.out ?_;go_wp2_with fail;refine X5 m.out ?_;go_wp2;go_ret;exact bh C.out _
 rw[Hw a c d N];have q:decide ((400:Int)<=(D.l.length:Int))=false:=qA (by omega);cases F:yQ D
 ·have B:=qQ (rR h j F);simp only[Bool.false_eq_true,if_false];generalize uf D D.keep=D2 at*;clear h j a F c d c0 c1 o p r s;go_enter func201,ntmps201;go_wp2_with fail;refine X5 i.out ?_;go_wp2_with fail;refine X5 m.out ?_;go_wp2_with fail;refine B.out.mono ?_;rintro e O⟨E',rfl,t,u,v⟩;have S:=qQ t;have J:=qQ u;have L:=qQ v;clear t u v B;go_wp2;go_ret;exact rS S.out J.out L.out _
 ·have B:=qQ (rP h F);simp only[if_true];have X:=qQ c;have U:=qQ d;have W:=qQ Y;clear h j a F c d c0 c1 o p r s N;go_enter func201,ntmps201;go_wp2_with fail;refine X5 i.out ?_;go_wp2_with fail;refine X5 m.out ?_;go_wp2_with fail;refine B.out.mono ?_;rintro e O⟨rfl,t,u⟩;obtain⟨w3,Z,v,P⟩:=qXv t n X.out H U.out W.out;obtain⟨c0,c1,aa,o,p,r,s⟩:=t.cells;have L:=qQ v;have T:=qQ P;have J:=qQ u
  have V:=qQ (qXy (g:=g) (mb:=mb) (E:=E) (K:=K) (x:=lG O n) (z:=w.1.size) (fun b A=>by
   have e:b=O.1.size:=(by simpa[lG,Ent.blocks,Value.ownBlock] using A);rw[e];exact u.size))
  unfold Q2 at Z;clear t u v P B c0 c1 o p r s c2 M Q;go_wp2;go_ret;refine⟨_,rfl,L.out.at,V.out, ?_⟩;exact(J.out.more (fun b A=>qX (fF A))).trans T.out (fun b A=>qX (by rw[qH.1 A];exact QS))
end
section
variable {w w1 w':World}{base g mb:Nat}{vF:Value}{E E':List Ent}{K G:List Nat}{D D':jD}
def nE(x:Ent)(n:Tw):Ent:=⟨{ x.f with name:=n },x.b,x.v⟩
theorem qXg{x:Ent}{n:Tw}(h:vA w base x):vA w base (nE x n):=⟨h.1,h.2.1,h.2.2⟩
def Q4(l:List jI)(k:Nat)(n a:Tw):List jI:=if n=a then l else fx l k a
theorem qXb(h:PAt w base g mb vF E K D){k:Nat}{x:Ent}(c:E[k]? = some x)(v:D.l.length<=400)(i:PAt w1 base g mb vF (uQ E k) K { D with l:=kx D.l k })(t:jH [mb] w w1):
  ∃w',(Instr.mapUpdate 80 (.map (some mb)) (.string x.f.name) (ptr x.b)).run prog w1=.ok () w'/\PAt w' base g mb vF E K D/\jH [mb] w1 w':=by
 have m:=qM c
 obtain⟨w',s,q,j⟩:=i.map.store i.nodup (by
  have u:(uQ E k).length<=E.length:=fH.length_le;rw[qz];have:=h.zQ;omega) (h.zg m) (b:=x.b) (L':=E.map Ent.nb) (qP.2 ⟨x,m,rfl⟩)
  (fun y d=>by
   obtain⟨z,a,rfl⟩:=qP.1 d;rcases qL.1 ((Q1 c).mem_iff.1 a) with rfl|a
   ·exact qX rfl
   ·exact qY ⟨qP.2 ⟨z,a,rfl⟩,J3 c h.zL z a⟩)
  (fun y d _=>by
   obtain⟨z,a,rfl⟩:=qP.1 d;exact qP.2 ⟨z,fH.subset a,rfl⟩)
 have o:jH [mb] w w':=t.trans j (fun b p=>qX p);have r:=h.zX E D.l h.xN q o h.xM h.apart h.xH h.names;exact⟨w',s,r,j⟩
theorem qXc(h:PAt w base g mb vF E K D){k:Nat}{x:Ent}(o:E[k]? = some x){a:Tw}(C:ks a=true)(I:a.size<=maxLen)(Q:x.f.name≠a)(P:D.l.length<=400)(j:PAt w1 base g mb vF (uQ E k) K { D with l:=kx D.l k })(H:jH [mb] w w1):
  ∃w',(Instr.mapUpdate 80 (.map (some mb)) (.string a) (ptr x.b)).run prog w1=.ok () w'/\PAt w' base g mb vF (dA (cd (uQ E k) a) (nE x a)) K { D with l:=fx D.l k a }/\jH [mb] w1 w':=by
 have J:=qM o;have p:=qXq (n:=a) j.zL
 obtain⟨w',F,B,q⟩:=j.map.store j.nodup (by
  have O:(uQ E k).length<=E.length:=fH.length_le;rw[qz];have:=h.zQ;omega) I (b:=x.b) (L':=(dA (cd (uQ E k) a) (nE x a)).map Ent.nb) (qP.2 ⟨nE x a,dh.mem_iff.2 (by simp),rfl⟩)
  (fun y c=>by
   obtain⟨z,d,rfl⟩:=qP.1 c;rcases qL.1 (dh.mem_iff.1 d) with rfl|d
   ·exact qX rfl
   ·exact qY ⟨qP.2 ⟨z,rz.subset d,rfl⟩,p z d⟩)
  (fun y c L=>by
   obtain⟨z,d,rfl⟩:=qP.1 c;exact qP.2 ⟨z,dh.mem_iff.2 (by simp[qXx d L]),rfl⟩)
 have m:D.l[k]? = some x.f:=by rw[h.xN,qu,o];rfl
 have v:(nE x a).f={ x.f with name:=a }:=rfl
 have s:(nE x a::cd (uQ E k) a).Pairwise bx:=by
  obtain⟨M,N⟩:=xU.1 (qX7 o h.apart);exact xU.2 ⟨fun y c=>M y (rz.subset c),List.Pairwise.sublist rz N⟩
 have A:fx D.l k a=(dA (cd (uQ E k) a) (nE x a)).map Ent.f:=by
  rw[nj m,Bu,Bg,Q0,v,<-h.xN]
 have r:jH [mb] w w':=H.trans q (fun b t=>qX t);refine⟨w',F,h.zX _ _ A B r (fun y c=>?_) (Bd s) ?_ (fun f i=>?_),q⟩
 ·rcases qL.1 (dh.mem_iff.1 c) with rfl|c
  ·exact qXg (h.xM x J)
  ·exact h.xM y (fH.subset (rz.subset c))
 ·rw[nj m];refine GX (qXz (JX h.xH k) a) _ (fun f i=>?_);have u:f∈(cd (uQ E k) a).map Ent.f:=by rw[Bg,Q0,<-h.xN];exact i
  obtain⟨z,d,rfl⟩:=qP.1 u;exact p z d
 ·rw[nj m]at i;rcases mT i with i|rfl
  ·exact h.names f (nc (Ka i))
  ·exact C
theorem qXd(h:PAt w base g mb vF E K D)(q:y8 D)(n c:Tw)(X:n.size<=maxLen)(Y:c.size<=maxLen):Calls prog 245 #[ptr g,n,c] w (yY gg base g (ku g mb E K) w (err (vI D n c).1) (vI D n c).2):=by
 have H:=qQ h;cases a:D.down
 case true =>
  have m:=qQ (ox h a n);rw[LQ a];clear h q a;go_enter func245,ntmps245;go_wp2_with fail;refine X5 m.out ?_;go_wp2;go_ret;exact bh H.out _
 by_cases d:j8 D.l n<D.l.length
 case neg =>
  have m:=qQ (oq h a d X);rw[LX a d];clear h q d a;go_enter func245,ntmps245;go_wp2_with fail;refine X5 m.out ?_;go_wp2;go_ret;exact bh H.out _
 obtain⟨x,r,L,s⟩:=nD h d;have m:=qQ (o8 h a r (by rw[s];exact X));rw[s]at m;have z:=qQ (BI c w Y);cases j:ks c
 case false =>
  rw[LZ a d j];rw[j]at z;clear h q a j d r L s;go_enter func245,ntmps245;go_wp2_with fail;refine X5 m.out ?_;go_wp2_with fail;refine X5 z.out ?_;go_wp2;go_ret;exact bh H.out _
 rw[j]at z;rw[LJ a d j,show(if n=c then D.l else fx D.l (j8 D.l n) c)=Q4 D.l (j8 D.l n) n c from rfl];generalize j8 D.l n=k at*;cases B:yQ D
 ·have v:=qQ (rR h q B);simp only[Bool.false_eq_true,if_false];generalize uf D D.keep=D2 at*;clear h q r L s d a B j;go_enter func245,ntmps245;go_wp2_with fail;refine X5 m.out ?_;go_wp2_with fail;refine X5 z.out ?_;go_wp2_with fail;refine v.out.mono ?_;rintro e w2⟨E',rfl,i,t,o⟩;have H1:=qQ i;have H2:=qQ t;have H3:=qQ o;clear i t o v;go_wp2;go_ret;exact rS H1.out H2.out H3.out _
 ·have v:=qQ (rP h B);simp only[if_true];have J:=qQ r;have I:=qQ s;have ab:=qQ j;have R:=qQ q.many;have W:∀b∈x.blocks,b∈ku g mb E K:=fun b p=>cg (qM r) p
  have aa:=qQ W;clear h q r L s d a B j W;go_enter func245,ntmps245;go_wp2_with fail;refine X5 m.out ?_;go_wp2_with fail;refine X5 z.out ?_;go_wp2_with fail;refine v.out.mono ?_;rintro e w2⟨rfl,i,t⟩;obtain⟨Z,hr,o,A⟩:=Bm i J.out
  have ac:∃f F,(Instr.mapUpdate 80 (.map (some mb)) (.string c) (ptr x.b)).run prog Z=.ok () f/\PAt f base g mb vF F K { cX D with l:=Q4 D.l k n c }/\jH [mb] Z f/\(∀y∈ku g mb F K,y∈ku g mb E K):=by
   by_cases C:n=c
   ·obtain⟨f,O,P,Q⟩:=qXb i J.out R.out o A;refine⟨f,E, ?_,by unfold Q4;rw[qV C];exact P,Q,fun _ h=>h⟩;rw[<-C,<-I.out];exact O
   ·obtain⟨f,O,P,Q⟩:=qXc i J.out ab.out Y (by rw[I.out];exact C) R.out o A;refine⟨f,_,O,by unfold Q4;rw[qZ C];exact P,Q,fun y N=>?_⟩;rcases vd.1 N with e|e|e|⟨u,M,e⟩
    ·exact vd.2 (qX e)
    ·exact vd.2 (qY (qX e))
    ·exact fF e
    ·rcases qL.1 (dh.mem_iff.1 M) with rfl|M
     ·exact aa.out y e
     ·exact cg (fH.subset (rz.subset M)) e
  obtain⟨f,F,ad,S,T,U⟩:=ac;rw[I.out]at hr;obtain⟨c0,c1,c2,c3,c4,c5,c6⟩:=i.cells;obtain⟨e0,e1,e2,e3,e4,e5,e6⟩:=o.cells;have V:jH (ku g mb E K) w f:=((t.more (fun b p=>qX (fF p))).trans A (fun b p=>qX (by rw[qH.1 p];exact QS))).trans T (fun b p=>qX (by rw[qH.1 p];exact QS));have H5:=qQ S;have H7:=qQ U;have HT:=qQ V;clear i t o A S T U V v c0 c1 c3 c4 c5 c6 e0 e1 e3 e4 e5 e6;go_wp2;go_ret;exact⟨_,rfl,H5.out.at,fun y N=>qX (H7.out y N),HT.out⟩
end
def Q5(w:World)(c:Nat):World:=(w.alloc (.map #[] 0)).alloc (.cells #[ptr (w.1.size+1),c,.map (some w.1.size),.bool true,.int .i64 0,.int .i64 0,.pointer none] 83)
theorem qXf(base c:Nat)(w:World)(d:base<=w.1.size):PAt (Q5 w c) base (w.1.size+1) w.1.size (.pointer none) [] [] (fj c):=by
 have j:(w.alloc (.map #[] 0)).1.size=w.1.size+1:=by simp
 have f:=vp.made w (.map #[] 0) rfl
 have b:jF (Q5 w c) (w.1.size+1) 83 #[ptr (w.1.size+1),c,.map (some w.1.size),.bool true,.int .i64 0,.int .i64 0,.pointer none]:=by
  have:=jF.new (w.alloc (.map #[] 0)) 83 #[ptr (w.1.size+1),c,.map (some w.1.size),.bool true,.int .i64 0,.int .i64 0,.pointer none];rw[j]at this;exact this
 have i:vp (Q5 w c) w.1.size []:=f.xC ((jH.refl [] (w.alloc (.map #[] 0))).alloc _) (by simp);exact⟨b,by omega,d,rfl,i,fun x a=>(by cases a),List.Pairwise.nil,List.Pairwise.nil,fun x a=>(by cases a),qX ⟨rfl,rfl,rfl⟩⟩
theorem qXh(base c:Nat)(w:World)(a:base<=w.1.size)(f:c<=1048576):Calls prog 24 #[c] w (Kr gg base w c):=by
 have j:decide ((c:Int)<0)=false:=qA (by omega);have l:decide ((1048576:Int)<(c:Int))=false:=qA (by omega);have m:=@run_makeMap prog;have b:=qQ (qXf base c w a);have o:(w.alloc (.map #[] 0)).1.size=w.1.size+1:=by simp
 clear a f;go_enter func24,ntmps24;go_wp2;go_ret2;have d:jH [] w (Q5 w c):=((jH.refl [] w).alloc _).alloc _;refine⟨w.1.size+1,_,rfl,b.out.at,fun x i=>?_,d⟩;rcases vd.1 i with rfl|rfl|e|⟨_,e,_⟩
 ·omega
 ·omega
 ·cases e
 ·cases e
end
section
open Go.RowKit
theorem qXl{w:World}{base g mb:Nat}{vF:Value}{E:List Ent}{K:List Nat}{D:jD}(h:PAt w base g mb vF E K D){v:Value}{f:FuncId}{args:Array Value}(a:Calls prog f args w fun e w'=>e=.returned v/\w=w'):
  Calls prog f args w (yY gg base g (ku g mb E K) w v D):=a.mono (by
 rintro e w'⟨rfl,rfl⟩;exact bh h _)
theorem api: jS gg where
 xC:=by
  rintro w w' base g F G D⟨mb,vF,E,K,h,rfl⟩ C z;exact⟨mb,vF,E,K,h.xC C z,rfl⟩
 low:=by
  rintro w base g F D⟨mb,vF,E,K,h,rfl⟩;exact h.low
 jB:=fun base c w l o=>qXh base c w l o
 create:=by
  rintro w base g F D n⟨mb,vF,E,K,h,rfl⟩ d f;exact qXu h d n f
 append:=by
  rintro w base g F D n s⟨mb,vF,E,K,h,rfl⟩ d B f;exact qX4 h d n s f B
 read:=by
  rintro w base g F D n a k⟨mb,vF,E,K,h,rfl⟩ d o y A f;exact qX6 h d o n a k f y A
 sync:=by
  rintro w base g F D n⟨mb,vF,E,K,h,rfl⟩ d f;exact qXP h d n f
 rename:=by
  rintro w base g F D n m⟨mb,vF,E,K,h,rfl⟩ d p f;exact qXd h d n m f p
 delete:=by
  rintro w base g F D n⟨mb,vF,E,K,h,rfl⟩ d f;exact qXk h d n f
 names:=by
  rintro w base g F D⟨mb,vF,E,K,h,rfl⟩ d;refine(B8 h d.many).mono ?_;rintro e w'⟨v,r,t,q,i⟩;have u:=h.xC i (fun _ _=>by simp);exact⟨_,v,r,t,fun b l=>⟨q b l,fun p=>by have:=q b l;have:=(h.low b p).2;omega⟩,u.at,fun x j=>qX j,i.more (fun x j=>by cases j)⟩
 free:=by
  rintro w base g F D⟨mb,vF,E,K,h,rfl⟩ d;refine KG (Bv h d) fun w' i=>?_;exact mG (h.xC i (fun _ _=>by simp)) (i.more (fun x j=>by cases j)) _
 reads:=by
  rintro w base g F D⟨mb,vF,E,K,h,rfl⟩ d;exact qXl h (qXY h)
 jA:=by
  rintro w base g F D⟨mb,vF,E,K,h,rfl⟩;exact Bj h
 zi:=by
  rintro w base g F D⟨mb,vF,E,K,h,rfl⟩;exact qXU h
 zI:=by
  rintro w base g F D n⟨mb,vF,E,K,h,rfl⟩ d f;exact qXG h d n f
 xH:=by
  rintro w base g F D⟨mb,vF,E,K,h,rfl⟩;exact⟨h.xH,h.names⟩
end
end Go.Proofs.YthejglbnkmimjaaGreat
