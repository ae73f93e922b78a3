import Derived.Test.YthejglbnkmimjaaGreatPp11
import Derived.Test.YthejglbnkmimjaaGreatPp14
set_option linter.unusedVariables false
set_option maxRecDepth 100000
set_option maxHeartbeats 9000000
namespace Go.Proofs.YthejglbnkmimjaaGreat
open Tryz
section
open Go.RowKit
section
variable {w:World}{base g mb:Nat}{vF:Value}{E:List Ent}{K:List Nat}{D:zr}
theorem PAt.cells(h:PAt w base g mb vF E K D):w.cell? ⟨g,0,none⟩=some (ptr g)/\w.cell? ⟨g,1,none⟩=some (.int .i64 (D.cap:Nat))/\w.cell? ⟨g,2,none⟩=some (.map (some mb))/\w.cell? ⟨g,3,none⟩=some (.bool (!D.down)) /\
  w.cell? ⟨g,4,none⟩=some (.int .i64 (D.count:Nat))/\w.cell? ⟨g,5,none⟩=some (.int .i64 (D.qn:Nat))/\w.cell? ⟨g,6,none⟩=some vF :=
 ⟨h.qi.cell 0,h.qi.cell 1,h.qi.cell 2,h.qi.cell 3,h.qi.cell 4,h.qi.cell 5,h.qi.cell 6⟩
theorem fM(h:PAt w base g mb vF E K D){n:Tw}(d:jW D.l n<D.l.length):∃x,E[jW D.l n]? = some x/\D.l[jW D.l n]? = some x.f/\x.f.name=n:=by
 obtain⟨f,b,i⟩:=dh d;have a:=b;generalize jW D.l n=k at*;rw[h.xZ,qz]at a;cases c:E[k]? with
 | none=>rw[c]at a;cases a
 | some x =>
   rw[c]at a;obtain rfl:x.f=f:=(by simpa using a);exact⟨x,rfl,b,i⟩
theorem Kd: (prog.info? 83).map (·.size)=some 7:=by kernel_rfl
theorem Mn(d:Nat)(p:Addr)(w:World):(Op.equalIn (d+1) 31 (.pointer (some p)) (.pointer (some p))).run prog w = .ok true w:=by
 cases a:prog.info? 83 with
 | none=>have:=Kd;rw[a]at this;cases this
 | some i =>
   have b:i.size=7:=(by have:=Kd;rw[a]at this;simpa using this);simp[Op.equalIn,run_underlying Tryz.underlying31,sizeOf,typeInfo,a,sameAddr]
theorem Mp(p:Addr)(w:World):(binOp .neq 31 (.pointer (some p)) (.pointer (some p))).run prog w = .ok (.bool false) w:=by
 have a:(Op.equal 31 (.pointer (some p)) (.pointer (some p))).run prog w = .ok true w:=Mn 9999 p w;simp only[binOp];simp[a]
theorem dP(h:w.cell? ⟨g,0,none⟩=some (ptr g)):Calls prog 32 #[ptr g] w fun e w'=>e = .returned (.bool false)/\w=w':=by
 have a:=Mp ⟨g,0,none⟩;go_enter func32,ntmps32;go_wp2;go_ret;exact⟨rfl,rfl⟩
theorem Mr(w:World):Calls prog 32 #[.pointer none] w fun e w'=>e = .returned (.bool true)/\w=w':=by
 go_enter func32,ntmps32;go_wp2;go_ret;exact⟨rfl,rfl⟩
def bo(D:zr):Nat:=if D.down then 61 else 0
theorem nG(h:PAt w base g mb vF E K D):Calls prog 50 #[ptr g] w fun e w'=>e = .returned (.int .i64 (bo D:Nat))/\w=w':=by
 obtain⟨c0,c1,c2,b,c,d,f⟩:=h.cells;have i:=qQ (dP c0);unfold bo;cases a:D.down
 all_goals
  rw[a]at b;clear a h c1 c2 c d f c0;go_enter func50,ntmps50;go_wp2_with fail;refine i.out.mono ?_;rintro e w'⟨rfl,rfl⟩;go_wp2;go_ret;exact⟨rfl,rfl⟩
theorem Kf(n:Tw)(w:World)(c:n.size<=maxLen):Calls prog 248 #[.string n] w fun e w'=>e = .returned (.bool (ky n))/\w=w':=by
 unfold maxLen at c;by_cases a:0<n.size
 ·by_cases b:n.size<=12
  ·have e:ky n=true:=(by unfold ky;rw[qW a,qW b];rfl);have d:decide ((1:Int)<=(n.size:Int))=true:=qW (by omega);have t:decide ((n.size:Int)<=12)=true:=qW (by omega);rw[e];clear e;go_enter func248,ntmps248;go_wp2;go_ret;exact⟨rfl,rfl⟩
  ·have e:ky n=false:=(by unfold ky;rw[qG b,Bool.and_false]);have d:decide ((1:Int)<=(n.size:Int))=true:=qW (by omega);have t:decide ((n.size:Int)<=12)=false:=qG (by omega);rw[e];clear e;go_enter func248,ntmps248;go_wp2;go_ret;exact⟨rfl,rfl⟩
 ·have e:ky n=false:=by unfold ky;rw[qG a,Bool.false_and]
  have t:decide ((1:Int)<=(n.size:Int))=false:=qG (by omega);have f:n.size=0:=by omega
  rw[e];clear e;go_enter func248,ntmps248;go_wp2;go_ret;exact⟨rfl,rfl⟩
theorem Ms(h:PAt w base g mb vF E K D){k:Nat}{x:Ent}(a:E[k]? = some x)(l:x.f.name.size<=maxLen):Calls prog 240 #[ptr g,.string x.f.name] w fun e w'=>e = .returned (.tuple #[ptr x.b,.int .i64 0])/\w=w':=by
 obtain⟨c0,c1,c2,c,d,i,j⟩:=h.cells;have m:=qQ (dP c0);have o:=h.map.look l (b:=x.b) (qN.2 ⟨x,qO a,rfl⟩);generalize x.f.name=n at*;generalize x.b=b at*;clear a h c1 c d i j c0;go_enter func240,ntmps240;go_wp2_with fail;refine m.out.mono ?_;rintro e w'⟨rfl,rfl⟩;go_wp2;go_ret2;exact⟨rfl,rfl⟩
theorem Mt(h:PAt w base g mb vF E K D){n:Tw}(a:¬jW D.l n<D.l.length)(j:n.size<=maxLen):Calls prog 240 #[ptr g,.string n] w fun e w'=>e = .returned (.tuple #[.pointer none,.int .i64 4])/\w=w':=by
 obtain⟨c0,c1,c2,b,c,d,i⟩:=h.cells;have m:=qQ (dP c0)
 have r:=h.map.xw j (fun y q=>by
  obtain⟨x,o,rfl⟩:=qN.1 q;exact nZ a x.f (by rw[h.xZ];exact qN.2 ⟨x,o,rfl⟩))
 clear a h c1 b c d i c0;go_enter func240,ntmps240;go_wp2_with fail;refine m.out.mono ?_;rintro e w'⟨rfl,rfl⟩;go_wp2;go_ret2;exact⟨rfl,rfl⟩
theorem lL(h:PAt w base g mb vF E K D)(c:D.down=false){k:Nat}{x:Ent}(d:E[k]? = some x)(l:x.f.name.size<=maxLen):Calls prog 187 #[ptr g,.string x.f.name] w fun e w'=>e = .returned (.tuple #[ptr x.b,.int .i64 0])/\w=w':=by
 have i:=qQ (nG h);have a:bo D=0:=by unfold bo;rw[c];rfl
 rw[a]at i;have j:=qQ (Ms h d l);generalize x.f.name=n at*;generalize x.b=b at*;clear d h c a;go_enter func187,ntmps187;go_wp2_with fail;refine i.out.mono ?_;rintro e w'⟨rfl,rfl⟩;go_wp2_with fail;refine j.out.mono ?_;rintro e w'⟨rfl,rfl⟩;go_wp2;go_ret2;exact⟨rfl,rfl⟩
theorem lM(h:PAt w base g mb vF E K D)(b:D.down=false){n:Tw}(c:¬jW D.l n<D.l.length)(i:n.size<=maxLen):Calls prog 187 #[ptr g,.string n] w fun e w'=>e = .returned (.tuple #[.pointer none,.int .i64 4])/\w=w':=by
 have d:=qQ (nG h);have a:bo D=0:=by unfold bo;rw[b];rfl
 rw[a]at d;have f:=qQ (Mt h c i);clear c h b a;go_enter func187,ntmps187;go_wp2_with fail;refine d.out.mono ?_;rintro e w'⟨rfl,rfl⟩;go_wp2_with fail;refine f.out.mono ?_;rintro e w'⟨rfl,rfl⟩;go_wp2;go_ret2;exact⟨rfl,rfl⟩
theorem lN(h:PAt w base g mb vF E K D)(b:D.down=true)(n:Tw):Calls prog 187 #[ptr g,.string n] w fun e w'=>e = .returned (.tuple #[.pointer none,.int .i64 61])/\w=w':=by
 have c:=qQ (nG h);have a:bo D=61:=by unfold bo;rw[b];rfl
 rw[a]at c;clear h b a;go_enter func187,ntmps187;go_wp2_with fail;refine c.out.mono ?_;rintro e w'⟨rfl,rfl⟩;go_wp2;go_ret2;exact⟨rfl,rfl⟩
end
theorem Ma{P:Program}(x y:Int)(m:Int)(h:m=if x<y then y else x):∀a t w,(Builtin.max_ a t #[.int .i64 x,.int .i64 y]).run P w = .ok (.int .i64 m) w:=fun a t w=>by
 rw[run_max_int2,h]
theorem Kh{w:World}{base:Nat}{v:Value}{d:Tw}(h:uT w base v d):(v = .slice none 0 0/\d.size=0)∨∃b a,v = .slice (some ⟨b,0,none⟩) d.size a/\d.size<=a/\a<=maxLen/\base<=b/\b<w.heap.size:=by
 rcases h.2 with⟨rfl,e⟩|⟨g,a,j,rfl,i,o,c,f,l,m⟩
 ·exact qX ⟨rfl,e⟩
 ·exact qY ⟨g,a,rfl,c,f,i,(h.lt g rfl).2⟩
theorem Me{w:World}{base:Nat}{d:Tw}(h:d.size=0):uT w base (.slice none 0 0) d:=⟨by rw[byteCells_length];omega,qX ⟨rfl,h⟩⟩
theorem Kl{k:Int}(h:0<=k):(if 0<k then(0:Int) else k)=0:=by split<;>omega
theorem Km(b:Nat)(w:World)(u v:Value):ze [b] w ((w.setCell ⟨b,0,none⟩ u).setCell ⟨b,1,none⟩ v) :=
 ((ze.refl [b] w).setCell (p:=⟨b,0,none⟩) (qX (qE.2 rfl)) _).setCell (p:=⟨b,1,none⟩) (qX (qE.2 rfl)) _
def pD(base:Nat)(x:Ent)(w:World)(f:zi)(e:Ending)(w':World):Prop :=
 ∃v,e = .returned (.tuple #[])/\kG w' base ⟨f,x.b,v⟩/\v.ownBlock=x.v.ownBlock/\ze [x.b] w w'
theorem kG.cells{w:World}{base:Nat}{x:Ent}(h:kG w base x):w.cell? ⟨x.b,0,none⟩=some x.v/\w.cell? ⟨x.b,1,none⟩=some (.int .i64 (x.f.synced:Nat))/\w.frozen? ⟨x.b,0,none⟩=false/\w.frozen? ⟨x.b,1,none⟩=false :=
 ⟨h.1.cell 0,h.1.cell 1,h.1.frozen 0,h.1.frozen 1⟩
theorem kG.put{w:World}{base:Nat}{x:Ent}(h:kG w base x){v:Value}{d:Tw}(a:uT w base v d):kG (w.setCell ⟨x.b,0,none⟩ v) base ⟨⟨x.f.name,d,x.f.synced⟩,x.b,v⟩ :=
 ⟨h.1.put 0 v,h.2.1,vW a (kv a h.1 (by decide)) _⟩
theorem kG.xx{w:World}{base:Nat}{x:Ent}(h:kG w base x)(n:Nat):kG (w.setCell ⟨x.b,1,none⟩ (.int .i64 (n:Nat))) base ⟨⟨x.f.name,x.f.data,n⟩,x.b,x.v⟩ :=
 ⟨h.1.put 1 _,h.2.1,vW h.2.2 (kv h.2.2 h.1 (by decide)) _⟩
theorem Mi{w:World}{base:Nat}{x:Ent}(h:kG w base x)(k:Int)(A:0<=k)(O:x.f.data.size<=1048576)(m:Nat)(o:m=min k.toNat x.f.data.size):
  Calls prog 163 #[ptr x.b,.int .i64 k] w (pD base x w ⟨x.f.name,x.f.data.extract 0 m,min x.f.synced m⟩):=by
 obtain⟨c0,c1,J,L⟩:=h.cells;have B:=@sy prog k x.f.data.size m (by split<;>omega);have C:=@sy prog x.f.synced m (min x.f.synced m) (by split<;>omega);have q:m<=x.f.data.size:=by omega
 rcases Kh h.2.2 with⟨e,y⟩|⟨b,u,e,P,F,M,N⟩
 ·obtain rfl:m=0:=by omega
  have c:uT w base (.slice none 0 0) (x.f.data.extract 0 0):=Me (by rw[qS];omega);have I:=qQ h;have H:=qQ c;have l:x.v.ownBlock=none:=by rw[e];rfl
  rw[e]at c0;have B:∀d t w,(Builtin.min_ d t #[.int .i64 k,.int .i64 0]).run prog w = .ok (.int .i64 0) w:=fun d t w=>by rw[run_min_int2,Kl A]
  have C:∀d t w,(Builtin.min_ d t #[.int .i64 (x.f.synced:Nat),.int .i64 0]).run prog w = .ok (.int .i64 0) w:=fun d t w=>by rw[run_min_int2,Kl (by omega)]
  have a:=(h.put c)
  have r:=a.1.cell 0;have s:=a.1.cell 1;have z:=a.1.frozen 1;have i:=qQ (a.xx (min x.f.synced 0));rw[Nat.min_zero]at i ⊢;clear a h c q o y;go_enter func163,ntmps163;go_wp2;go_region
  go_wp2_with fail;go_region
  go_end0;exact⟨_,rfl,i.out,l.symm,((Km x.b w _ _).drew).drew⟩
 ·have j:=h.2.2;rw[e]at j;have c:=Lr j q;have l:x.v.ownBlock=some b:=by rw[e];rfl
  rw[e]at c0;have a:=h.put c;have r:=a.1.cell 0;have s:=a.1.cell 1;have z:=a.1.frozen 1;have i:=qQ (a.xx (min x.f.synced m));unfold maxLen at F;have Q:(0:Int)<=(m:Int):=by omega
  have R:(m:Int)<=(u:Int):=by omega
  clear a h c o j;go_enter func163,ntmps163;go_wp2;go_region
  go_wp2_with fail;go_region
  go_end0;exact⟨_,rfl,i.out,l.symm,((Km x.b w _ _).drew).drew⟩
theorem Mo{w:World}{base:Nat}{x:Ent}(h:kG w base x)(n:Int)(hs:x.f.synced<=x.f.data.size)(S:x.f.data.size<=1048576):
  Calls prog 99 #[ptr x.b,.int .i64 n] w (pD base x w (yO x.f n)):=by
 obtain⟨c0,c1,J,L⟩:=h.cells;obtain⟨m,l⟩:∃m,m=min n.toNat (x.f.data.size-x.f.synced):=⟨_,rfl⟩
 have hst:ct x.f n=x.f.synced+m:=by unfold ct;rw[l]
 have j:yO x.f n=⟨x.f.name,x.f.data.extract 0 (x.f.synced+m),x.f.synced+m⟩:=by unfold yO;rw[hst]
 obtain⟨t,c⟩:∃t:Nat,(t:Int)=if n<0 then 0 else n:=⟨n.toNat,by split<;>omega⟩
 have P:=@Ma prog n 0 t c;have Q:=@sy prog t ((x.f.data.size:Int)-(x.f.synced:Int)) m (by split<;>split at c<;>omega);have hcut:=qQ (fun W (O:kG W base x)=>Mi O ((x.f.synced:Int)+(m:Int)) (by omega) S (x.f.synced+m) (by omega));have q:(x.f.data.extract 0 (x.f.synced+m)).size=x.f.synced+m:=by rw[qS];omega
 have o:min x.f.synced (x.f.synced+m)=x.f.synced:=by omega
 rw[j];rw[o]at hcut;have z:=qQ q;have i:=qQ h;have X:(x.f.synced:Int)+(m:Int)<=1048576:=by omega
 have Y:0<=(x.f.data.size:Int)-(x.f.synced:Int):=by omega
 have Z:(x.f.data.size:Int)<=1048576:=by omega
 obtain⟨A,aa,s,T,U,_⟩:=dL h.2.2;rw[s]at c0;clear s j hst l c o h q T U;go_enter func99,ntmps99;go_wp2_with fail;go_region
 go_wp2_with fail;refine(hcut.out _ (by first | exact i.out | exact i.out.drew)).mono ?_;rintro e w2⟨v2,rfl,a,u,r⟩;obtain⟨H,I,M,N⟩:=a.cells;obtain⟨V,ab,d,_⟩:=dL a.2.2;dsimp only at d H I M N;rw[z.out]at d;have v:=qQ (a.xx (x.f.synced+m));have C:=qQ u;have B:=qQ r;subst d;clear u r a c0 c1 J L hcut Q P;go_wp2;go_end0;exact⟨_,rfl,v.out,C.out,(ze.trans (F:=[x.b]) (by first | exact ze.refl _ _ | exact(ze.refl _ _).drew) B.out (fun y R=>qX R)).setCell (p:=⟨x.b,1,none⟩) (qX (qE.2 rfl)) _⟩
end
section
open Go.RowKit Go.Maps Go.Sort Go.Shelf
theorem Mw(m:Nat):AnyZ.SortsIn prog Tryz.sorted161_ren Fence.wide m :=
 ⟨fun b off a i W c d f=>callsIn_wide.2 (AnyM.slices_Sort_string Tryz.sort216 b off a i W c d f),fun p a W=>callsIn_wide.2 (AnyM.slices_Sort_string_none Tryz.sort216 p a W)⟩
theorem NQ(mb:Nat)(w:World):Calls prog 162 #[.map (some mb)] w fun e w'=>e = .returned (.func (.func 217) #[] #[.pointer (some ⟨w.heap.size,0,none⟩)])/\w'=w.alloc (.cells #[.map (some mb)] 80) :=
 callsIn_wide.1 (AnyZ.keys_in Tryz.keys162 Fence.wide 5 trivial rfl (some mb) w)
theorem NX(b f:Nat)(a:DataW Unit)(R:Value->Option (DataW Unit × List MemPlace))(w:World)(d:w.ownsMap prog 9 R b f a)(A:Maps.size a<=maxLen)(z:Maps.size a*16<=140737488355328):
  Calls prog 161 #[.func (.func 217) #[] #[.pointer (some ⟨w.heap.size,0,none⟩)]] (w.alloc (.cells #[.map (some b)] 80)) fun e w'=>∃(v:Value) (c:List (List UInt8)),e = .returned v/\c.Perm (strKeys a) /\
   w'.ownsRow (w.alloc (.cells #[.map (some b)] 80)).heap.size 9 1 v c.length ((c.mergeSort (fun x y=>decide (x<=y))).map encStr)/\Below (w.alloc (.cells #[.map (some b)] 80)).heap.size (w.alloc (.cells #[.map (some b)] 80)) w':=by
 have u:=d.lt
 have C:SeqGives Fence.wide 2 prog 217 #[.pointer (some ⟨w.heap.size,0,none⟩)] encStr (fun c=>c.Perm (strKeys a)) (Maps.size a) (w.alloc (.cells #[.map (some b)] 80)) :=
  AnyZ.keys_gives (ρ:=Tryz.keys162_ren) { Tryz.keys162 with } Fence.wide _ trivial rfl (by omega) w.heap.size b f a _ (by simp) (by simp) (by
   obtain⟨l,j,t,i,B,s⟩:=d;exact⟨l,j,(Below.heap_alloc _ _ b u).trans t,i,B,s⟩)
 have h:=AnyZ.sorted_in Tryz.sorted161 Fence.wide 5 trivial trivial trivial trivial rfl (by omega) (Mw _) (enters_of func216 (by kernel_rfl) rfl) 217 #[.pointer (some ⟨w.heap.size,0,none⟩)] trivial (enters_of func217 (by kernel_rfl) rfl) _ _ A z _ C;refine(callsIn_wide.1 h).mono ?_;rintro e w'⟨v,c,m,o,q,_,r⟩;exact⟨v,c,m,o,q,r⟩
section
variable {w:World}{base g mb:Nat}{vF:Value}{E:List Ent}{K:List Nat}{D:zr}
def Kn(w:World)(l:List zi)(e:Ending)(w':World):Prop:=∃v,e = .returned v/\yQ w' v (l.map zi.name)/\(∀b,v.ownBlock=some b->w.heap.size<=b)/\ze [] w w'
theorem NZ{w:World}{base:Nat}{v:Value}{l:List Tw}(h:w.ownsRow base 9 1 v l.length (l.map Value.string)):yQ w v l:=by
 rcases h.2 with⟨rfl,e⟩|⟨b,f,cs,rfl,_,a,j,m,_,o⟩
 ·exact qX ⟨List.eq_nil_of_length_eq_zero e,none,0,rfl⟩
 ·refine qY ⟨b,0,f,rfl,j,m, ?_,fun i x d=>?_⟩
  ·rcases Nat.lt_or_ge b w.heap.size with c|c
   ·exact c
   ·rw[Array.getElem?_eq_none c]at a;cases a
  ·have q:=(qM.1 d).1;rw[Nat.zero_add,h.cellAt i (by omega),qz,d];rfl
theorem QZ(h:PAt w base g mb vF E K D):(E.map Ent.nb).map (fun x=>x.1.data.toList)=D.l.map (fun f=>f.name.data.toList):=by
 rw[h.xZ,List.map_map,List.map_map];rfl
theorem Kp(h:PAt w base g mb vF E K D)(m:D.l.length<=400):Calls prog 98 #[ptr g] w (Kn w D.l):=by
 obtain⟨c0,c1,c2,L,M,N,O⟩:=h.cells;have S:=qQ (dP c0);obtain⟨n,d,c,i⟩:=h.map;have o:((E.map Ent.nb).map (fun x=>x.1.data.toList)).Nodup:=by rw[QZ h];exact Ja h.qo
 have j:=i.keys c o;have J:=i.size c o;rw[QZ h]at j
 have R:Maps.size d<=400:=by
  rw[J,qj];have:=h.xZ;rw[this,qj]at m;exact m
 have H:=h.qo;have u:=qQ (NX mb n d yx w c (by unfold maxLen;omega) (by omega));have s:=qQ (NQ mb w)
 have F:∀(v:Value) (a:List (List UInt8)) (w':World),a.Perm (strKeys d)->w'.ownsRow (w.alloc (.cells #[.map (some mb)] 80)).heap.size 9 1 v a.length ((a.mergeSort (fun x y=>decide (x<=y))).map encStr) ->
   Below (w.alloc (.cells #[.map (some mb)] 80)).heap.size (w.alloc (.cells #[.map (some mb)] 80)) w'->Kn w D.l (.returned v) w':=by
  intro v a w' T q P;have C:a.Perm (D.l.map (fun f=>f.name.data.toList)):=T.trans j.symm;rw[Lu H C]at q
  have e:(D.l.map (fun f=>f.name.data.toList)).map encStr=(D.l.map zi.name).map Value.string:=by
   rw[List.map_map,List.map_map];apply List.map_congr_left;intro f _;show encStr f.name.data.toList = .string f.name;unfold encStr;simp
  rw[e,C.length_eq,qj]at q;have I:w'.ownsRow (w.alloc (.cells #[.map (some mb)] 80)).heap.size 9 1 v (D.l.map zi.name).length ((D.l.map zi.name).map Value.string):=by rw[qj];exact q
  refine⟨v,rfl,NZ I,fun b Q=>?_,(((ze.refl [] w).alloc _).trans (ze.qm P) (fun x U=>by cases U))⟩;have:=(I.lt b Q).1;have V:(w.alloc (.cells #[.map (some mb)] 80)).heap.size=w.heap.size+1:=by simp
  omega
 have t:=qQ F;clear F o j J R H h c i c0 c1 L M N O m;go_enter func98,ntmps98;go_wp2_with fail;refine S.out.mono ?_;rintro e w'⟨rfl,rfl⟩;go_wp2_with fail;refine s.out.mono ?_;rintro e w'⟨rfl,rfl⟩;go_wp2_with fail;refine u.out.mono ?_;rintro e w'⟨v,a,rfl,z,A,B⟩;have r:=qQ (t.out v a w' z A B);clear z A B u s t;obtain⟨X,W,_⟩:=r.out;go_wp2;go_ret;exact r.out
end
end
section
open Go.RowKit
theorem yQ.qa{F:List Nat}{w w':World}{v:Value}{l:List Tw}(h:yQ w v l)(c:ze F w w')(hF:∀b,v.ownBlock=some b->b ∉ F):yQ w' v l:=by
 rcases h with h|⟨b,off,d,rfl,f,j,a,m⟩
 ·exact qX h
 ·exact qY ⟨b,off,d,rfl,f,j,qP a c.size,fun i x o=>(c.cell (p:=⟨b,off+i,none⟩) a (hF b rfl)).trans (m i x o)⟩
theorem ju.later{F:List Nat}{w w':World}{v:Value}{l:List Int}(h:ju w v l)(a:ze F w w')(hF:l≠[]->∀b,v.ownBlock=some b->b ∉ F):ju w' v l:=by
 by_cases e:l=[]
 ·subst e;rcases h with h|⟨b,off,c,rfl,_⟩
  ·exact qX h
  ·exact qX ⟨rfl,_,_,rfl⟩
 ·exact h.qa a (hF e)
def FB(E:List Ent):List Nat:=E.flatMap Ent.blocks
theorem lO{E:List Ent}{b:Nat}:b∈FB E↔∃x∈E,b∈x.blocks:=List.mem_flatMap
theorem Kr{E E':List Ent}(h:E'.map Ent.blocks=E.map Ent.blocks):FB E'=FB E:=by
 unfold FB;rw[List.flatMap_def,List.flatMap_def,h]
theorem NJ(l:List zi)(keep:List Int):uI l keep 0=l:=by
 unfold uI;apply List.ext_getElem?;intro i;rw[List.getElem?_mapIdx];cases l[i]?<;>simp
theorem NK(l:List zi)(keep:List Int):uI l keep l.length=uo l keep:=by
 unfold uI uo;apply List.ext_getElem?;intro i;rw[List.getElem?_mapIdx,List.getElem?_mapIdx];rcases Nat.lt_or_ge i l.length with c|c
 ·simp only[if_pos c]
 ·rw[List.getElem?_eq_none c];rfl
theorem NV{l:List zi}{keep:List Int}{k:Nat}{f:zi}(h:l[k]? = some f):(uI l keep k).set k (yO f (keep.getD k 0))=uI l keep (k+1):=by
 have a:=(qM.1 h).1;unfold uI;apply List.ext_getElem?;intro i;rw[List.getElem?_set,List.getElem?_mapIdx,List.getElem?_mapIdx,List.length_mapIdx];by_cases e:k=i
 ·subst e;rw[qK rfl,qK a,h,Option.map_some,qK (Nat.lt_succ_self _)]
 ·rw[qJ e];cases l[i]? with
  | none=>rfl
  | some x =>
    rw[Option.map_some,Option.map_some];by_cases c:i<k
    ·rw[qK c,qK (by omega)]
    ·rw[qJ c,qJ (by omega)]
theorem NY(l:List zi)(keep:List Int)(k:Nat):(uI l keep k)[k]? = l[k]? := by
 unfold uI;rw[List.getElem?_mapIdx];cases l[k]? with
 | none=>rfl
 | some x=>rw[Option.map_some,qJ (Nat.lt_irrefl _)]
section
variable {w:World}{base g mb:Nat}{vF:Value}{E:List Ent}{K:List Nat}{D:zr}
def nW(w:World)(base g mb:Nat)(vF:Value)(E:List Ent)(K:List Nat)(D:zr)(keep:List Int)(b a:Value)(k:Nat)(wr:World):Prop :=
 ∃E',PAt wr base g mb vF E' K { D with l:=uI D.l keep k }/\E'.map Ent.blocks=E.map Ent.blocks/\ze (FB E) w wr/\yQ wr b (D.l.map zi.name)/\ju wr a keep
theorem nW.next{keep:List Int}{r q:Value}{k:Nat}{wr w2:World}(h:nW w base g mb vF E K D keep r q k wr)(Q:PAt w base g mb vF E K D)(z:∀b,r.ownBlock=some b->b ∉ FB E)(F:keep≠[]->∀b,q.ownBlock=some b->b ∉ FB E)
  {E':List Ent} (A:PAt wr base g mb vF E' K { D with l:=uI D.l keep k }) (t:E'.map Ent.blocks=E.map Ent.blocks) {x:Ent} {f:zi} (J:D.l[k]? = some f) (d:E'[k]? = some x) (O:x.f=f) {e:Ending} (I:pD base x wr (yO x.f (keep.getD k 0)) e w2):
  nW w base g mb vF E K D keep r q (k+1) w2:=by
 obtain⟨v,_,u,s,c⟩:=I;obtain⟨_,_,_,C,B,y⟩:=h;have P:=qO d;have H:x.b∈FB E:=by rw[<-Kr t];exact lO.2 ⟨x,P,by simp[Ent.blocks]⟩
 have o:∀b∈[x.b],b∈FB E:=fun b a=>by rw[qE.1 a];exact H
 refine⟨E'.set k ⟨yO x.f (keep.getD k 0),x.b,v⟩, ?_, ?_,C.trans c (fun b a=>qX (o b a)),B.qa c (fun b a i=>z b a (o b i)),y.later c (fun N b a i=>F N b a (o b i))⟩
 ·have m:=A.xe d ⟨yO x.f (keep.getD k 0),x.b,v⟩ rfl rfl c (fun b a=>by rw[qE.1 a];simp[Ent.blocks]) u (fun b a=>qX (s ▸ a));have M:(uI D.l keep k).set k (yO x.f (keep.getD k 0))=uI D.l keep (k+1):=NV (by rw[O];exact J);dsimp only at m;rw[M]at m;exact m
 ·rw[<-t,List.map_set];apply List.ext_getElem?;intro j;rw[List.getElem?_set];by_cases e:k=j
  ·subst e;have L:=(qM.1 d).1;rw[qK rfl,qK (by simpa using L),qz,d];show some (x.b::v.ownBlock.toList)=some (x.b::x.v.ownBlock.toList);rw[s]
  ·rw[qJ e]
def NU(w:World)(base g mb:Nat)(E:List Ent)(D:zr)(e:Ending)(w':World):Prop :=
 ∃E',e = .returned (.tuple #[])/\PAt w' base g mb (.pointer none) E' [] D/\E'.map Ent.blocks=E.map Ent.blocks/\ze (g::FB E) w w'
theorem Ks(S:Value)(keep:List Int)(h:PAt w base g mb vF E K D)(J:vA D)(j:ju w S keep)(hV:keep≠[]->∀b,S.ownBlock=some b->b ∉ FB E):
  Calls prog 51 #[ptr g,S] w (NU w base g mb E (vr D keep)):=by
 have ad:=qQ (Kp h J.many);have ab:=h.low;obtain⟨A,off,X,rfl,aa,-⟩:=j.cell;have av:keep.length<=9223372036854775807:=by unfold maxLen at aa;omega
 have U:=qQ h;have aj:=qQ J;have HI:=qQ j;have HV:=qQ hV
 have HM:=qQ (show ∀f∈D.l,f.name.size<=maxLen from fun f hf=>by
  have:=h.names f hf;unfold ky at this;simp only[Bool.and_eq_true,decide_eq_true_eq]at this;unfold maxLen;omega)
 have HL:=qQ ab;have ax:=J.many;clear h J j hV ab aa;go_enter func51,ntmps51;go_wp2_with fail;refine ad.out.mono ?_;rintro e w1⟨vN,rfl,o,ac,L⟩
 have Z:∀b,vN.ownBlock=some b->b ∉ FB E:=fun b hb hm=>by
  have h1:=ac b hb;have h2:=(HL.out b (km.2 (qY (qY (qY (lO.1 hm)))))).2;omega
 obtain⟨T,ay,Y,rfl,-,-⟩:=o.cell
 have af:nW w base g mb vF E K D keep (.slice T (D.l.map zi.name).length Y) (.slice A keep.length X) 0 w1 :=
  ⟨E,by rw[NJ];exact U.out.qa L (fun _ _=>by simp),rfl,L.more (fun x d=>by cases d),o,HI.out.qa L (fun _ _=>by simp)⟩
 have ai:=qQ Z;have F:=qQ af;clear o ac L Z af ad;rw[qj]at F ⊢;go_wp2;go_loopw [10] (fun i wr=>∃k:Nat,k<=D.l.length/\i = .int .i64 k/\nW w base g mb vF E K D keep (.slice T D.l.length Y) (.slice A keep.length X) k wr) (fun i _=>D.l.length-(intOf i).toNat)
 case atStart=>exact⟨0,qH _,rfl,F.out⟩
 case round =>
  obtain⟨k,hk,rfl,hF⟩:=hrel;have H:=qQ hF;obtain⟨E',a,I,P,o,j⟩:=hF;by_cases al:k<D.l.length
  ·obtain⟨f,r⟩:=rY al;have s:(uI D.l keep k)[k]? = some f:=(by rw[NY];exact r);rw[show uI D.l keep k=_ from a.xZ,qz]at s
   obtain⟨x,d,z⟩:∃x,E'[k]? = some x/\x.f=f:=by
    cases hh:E'[k]? with
    | none=>rw[hh]at s;cases s
    | some x=>rw[hh]at s;exact⟨x,rfl,by simpa using s⟩
   have hX:=a.xJ x (qO d);have Q:=aj.out.xY f (qO r);have ae:=HM.out f (qO r);have aw:=a.map.look (m:=f.name) ae (b:=x.b) (qN.2 ⟨x,qO d,by unfold Ent.nb;rw[z]⟩);obtain⟨c0,c1,c2,V,N,O,W⟩:=a.cells;obtain⟨A2,o1,ao,ag,-,ah⟩:=o.cell;obtain⟨hA,-,-⟩:=Value.slice.inj ag;subst hA;clear ag;obtain⟨b,rfl,au⟩:=ah k f.name (by rw[qz,r];rfl);have v:=qQ (Mo hX (keep.getD k 0) (by rw[z];exact Q.1) (by rw[z];exact Q.2));have u:=qQ (fun C e (q:pD base x wr (yO x.f (keep.getD k 0)) e C)=>H.out.next U.out ai.out HV.out a I r d z q);have l1:(k:Int)<(D.l.length:Int):=by omega
   have ak:(k<keep.length/\∃(B R:Nat) (y:Int),A=some ⟨B,R,none⟩/\wr.cell? ⟨B,R+k,none⟩=some (.int .i64 y)/\keep.getD k 0=y)∨(keep.length<=k/\keep.getD k 0=0):=by
    rcases Nat.lt_or_ge k keep.length with c|c
    ·refine qX ⟨c, ?_⟩;rcases j with⟨e,_⟩|⟨B,an,aq,e,_,_,_,hc⟩
     ·rw[e]at c;exact absurd c (Nat.not_lt_zero k)
     ·refine⟨B,an,keep[k],(Value.slice.inj e).1,hc k _ (qD c), ?_⟩;rw[qu,qD c];rfl
    ·exact qY ⟨c,by rw[qu,List.getElem?_eq_none c];rfl⟩
   clear s hX Q ae a I P o j ah H r d z c0 c1 V N O W F;rcases ak with⟨q1,B,R,y,rfl,q2,M⟩|⟨q1,M⟩
   all_goals
    rw[M]at v u;have H3:=qQ M;clear M
   ·have q4:(k:Int)<(keep.length:Int):=(by omega);go_wp2_with fail;refine v.out.mono ?_;rintro e C q;have t:=qQ (u.out C e q);obtain⟨v2,rfl,_⟩:=q;clear v u;go_wp2;go_roundw
    case rel=>exact⟨k+1,by omega,by go_num,t.out⟩
    case measure=>simp[intOf];omega
   ·have q4:decide ((k:Int)<(keep.length:Int))=false:=qG (by omega);go_wp2_with fail;refine v.out.mono ?_;rintro e C q;have t:=qQ (u.out C e q);obtain⟨v2,rfl,_⟩:=q;clear v u;go_wp2;go_roundw
    case rel=>exact⟨k+1,by omega,by go_num,t.out⟩
    case measure=>simp[intOf];omega
  ·obtain rfl:k=D.l.length:=(by omega);rw[NK]at a;obtain⟨c0,c1,c2,V,N,O,W⟩:=a.cells;have f3:=a.qi.frozen 3;have f6:=a.qi.frozen 6;have HP:=qQ ((a.xa true).zG []);have ap:=((a.xa true).cells).2.2.2.2.2.2;have ar:=(a.xa true).qi.frozen 6;have t:=qQ I;have HT:=qQ P;clear o j P I a c0 c1 c2 N O H F;go_wp2;go_end0;refine⟨E',rfl,HP.out,t.out, ?_⟩;have am:∀x∈FB E,x∈g::FB E∨w.heap.size<=x:=fun x d=>qX (qF _ d)
   exact((HT.out.more am).setCell (p:=⟨g,3,none⟩) (qX (by simp)) _).setCell (p:=⟨g,6,none⟩) (qX (by simp)) _
end
theorem NG(D:zr)(keep:List Int)(h:D.l.length<=400):vr D (keep.take 400)=vr D keep:=by
 unfold vr
 have e:uo D.l (keep.take 400)=uo D.l keep:=by
  unfold uo;apply List.ext_getElem?;intro i;rw[List.getElem?_mapIdx,List.getElem?_mapIdx];rcases Nat.lt_or_ge i D.l.length with c|c
  ·have:(keep.take 400).getD i 0=keep.getD i 0:=by
    rw[qu,qu,List.getElem?_take,qK (by omega)]
   rw[this]
  ·rw[List.getElem?_eq_none c];rfl
 rw[e]
theorem bh.ints{w:World}{base:Nat}{v:Value}{l:List Int}{K:List Nat}(h:bh w base v l K):ju w v l/\(l≠[]->∀b,v.ownBlock=some b->b∈K):=by
 rcases h with⟨rfl,rfl,a,c,rfl⟩|⟨h,rfl⟩
 ·exact⟨qX ⟨rfl,a,c,rfl⟩,fun h=>absurd rfl h⟩
 ·exact⟨(mY.zk h).qw,fun _ b d=>by simp[d]⟩
section
variable {w:World}{base g mb:Nat}{vF:Value}{E:List Ent}{K:List Nat}{D:zr}
theorem PAt.zU(h:PAt w base g mb vF E K D):∀b∈K,b ∉ FB E:=fun b a d=>by
 obtain⟨x,f,c⟩:=lO.1 d;exact(h.xJ x f).xn h.fail b c a
def NW(w:World)(base g mb:Nat)(vF:Value)(E:List Ent)(K:List Nat)(D:zr)(e:Ending)(w':World):Prop :=
 e = .returned (.bool false)/\PAt w' base g mb vF E K (ug D)/\ze K w w'
def NA(w:World)(base g mb:Nat)(E:List Ent)(D:zr)(e:Ending)(w':World):Prop :=
 ∃E',e = .returned (.bool true)/\PAt w' base g mb (.pointer none) E' [] D/\E'.map Ent.blocks=E.map Ent.blocks/\ze (g::FB E) w w'
theorem nA(h:PAt w base g mb vF E K D)(f:vV D=true):Calls prog 188 #[ptr g] w (NW w base g mb vF E K D):=by
 obtain⟨c0,c1,c2,l,o,q,J⟩:=h.cells;have t:=qQ h;rcases h.fail with⟨e,rfl,rfl⟩|⟨b,n,I,j,rfl,e,F,a,B,i,rfl⟩
 ·have v:=qQ (show ug D=D by unfold ug;rw[show D.fails-1=D.fails by omega]);clear h f e c0 c1 c2 l o q;go_enter func188,ntmps188;go_wp2;go_ret;exact⟨rfl,by rw[v.out];exact t.out,ze.refl _ _⟩
 ·have H:n≠0:=fun A=>by
   unfold vV at f;rw[e,A]at f;simp at f
  obtain⟨m,rfl⟩:∃m,n=m+1:=⟨n-1,by omega⟩
  have L:w.cell? ⟨b,0,none⟩=some (.int .i64 ((m:Int)+1)):=a.cell 0;have M:=a.frozen 0;have d:∀u,ze [b] w (w.setCell ⟨b,0,none⟩ u):=fun u=>(ze.refl _ w).setCell (p:=⟨b,0,none⟩) (qX (qE.2 rfl)) u
  have r:g≠b:=h.qi.xS a (by decide)
  have s:PAt (w.setCell ⟨b,0,none⟩ (.int .i64 (m:Nat))) base g mb (ptr b) E (b::j) (ug D):=by
   refine h.x8 (G:=[b]) (D':=ug D) rfl (h.qi.qa (d _) (by simpa using r)) (d _) (fun x c=>qY (by rw[qE.1 c];simp)) (qY ⟨b,m,I,j,rfl, ?_,by omega,a.put 0 _,B,i.qa (d _) (fun x c C=>?_),rfl⟩)
   ·show D.fails-1=m+1;omega
   ·rw[qE.1 C]at c;exact i.ne a (by decide) c
  have y:=qQ s;have z:=qQ (d (.int .i64 (m:Nat)));have N:(0:Int)<(m:Int)+1:=by omega
  have O:(m:Int)+1<=9223372036854775807:=by omega
  have P:(m:Int)+1-1=(m:Int):=by omega
  clear h f e c0 c1 c2 l o q s d a i F H r;go_enter func188,ntmps188;go_wp2;go_ret;exact⟨rfl,y.out,z.out.more (fun x c=>qX (by rw[qE.1 c];simp))⟩
theorem nB(h:PAt w base g mb vF E K D)(i:vA D)(a:vV D=false):Calls prog 188 #[ptr g] w (NA w base g mb E (vr D D.keep)):=by
 obtain⟨c0,c1,c2,v,y,z,J⟩:=h.cells;rcases h.fail with⟨e,rfl,rfl⟩|⟨b,n,r,I,rfl,e,C,d,B,q,rfl⟩
 ·unfold vV at a;rw[e]at a;simp at a
 ·obtain rfl:n=0:=by
   unfold vV at a;simp at a;omega
  have c:=q.ints;have M:w.cell? ⟨b,0,none⟩=some (.int .i64 0):=d.cell 0;have N:w.cell? ⟨b,1,none⟩=some r:=d.cell 1;have f:=Ks r (D.keep.take 400) h i c.1 (fun F x H=>h.zU x (qF _ (c.2 F x H)));rw[NG D D.keep i.many]at f;have j:=qQ f;obtain⟨A,off,L,rfl,-⟩:=c.1.cell;generalize (D.keep.take 400).length=O at*;clear h a e c0 c1 c2 v y z d q C f i c B;go_enter func188,ntmps188;go_wp2_with fail;refine j.out.mono ?_;rintro e P⟨E',rfl,l,m,o⟩;have s:=qQ l;have t:=qQ m;have u:=qQ o;clear l m o j;go_wp2;go_ret;exact⟨E',rfl,s.out,t.out,u.out⟩
end
def yw(f:FuncId)(a:Array Value)(w:World)(v:Value):Prop:=Calls prog f a w fun e w'=>e = .returned v/\w=w'
section
variable {w:World}{p:Value}
theorem NB(a:yw 32 #[p] w (.bool true))  : yw 50 #[p] w (.int .i64 1):=by
 have b:=qQ (a);clear a;unfold yw at*;go_enter func50,ntmps50;go_wp2_with fail;refine b.out.mono ?_;rintro e w'⟨rfl,rfl⟩;go_wp2;go_ret;exact⟨rfl,rfl⟩
theorem NC(a:yw 32 #[p] w (.bool true))(n:Tw):yw 187 #[p,.string n] w (.tuple #[.pointer none,.int .i64 1]):=by
 have b:=qQ (NB a);clear a;unfold yw at*;go_enter func187,ntmps187;go_wp2_with fail;refine b.out.mono ?_;rintro e w'⟨rfl,rfl⟩;go_wp2;go_ret2;exact⟨rfl,rfl⟩
theorem ND(a:yw 32 #[p] w (.bool true))(n:Tw):yw 125 #[p,.string n] w (.int .i64 1):=by
 have b:=qQ (NC a n);clear a;unfold yw at*;go_enter func125,ntmps125;go_wp2_with fail;refine b.out.mono ?_;rintro e w'⟨rfl,rfl⟩;go_wp2;go_ret;exact⟨rfl,rfl⟩
theorem NF(a:yw 32 #[p] w (.bool true))  : yw 75 #[p] w (.int .i64 0):=by
 have b:=qQ (a);clear a;unfold yw at*;go_enter func75,ntmps75;go_wp2_with fail;refine b.out.mono ?_;rintro e w'⟨rfl,rfl⟩;go_wp2;go_ret;exact⟨rfl,rfl⟩
end
section
variable {w w1 w':World}{base g mb:Nat}{vF:Value}{E E':List Ent}{K:List Nat}{D D':zr}
theorem NH(h:E'.map Ent.blocks=E.map Ent.blocks):∀x∈jm g mb E' [],x∈jm g mb E K:=by
 intro x a;rcases km.1 a with e|e|e|e
 ·exact km.2 (qX e)
 ·exact km.2 (qY (qX e))
 ·cases e
 ·refine km.2 (qY (qY (qY ?_)));have:x∈FB E':=lO.2 e;rw[Kr h]at this;exact lO.1 this
theorem Kt: g∈jm g mb E K:=km.2 (qX rfl)
theorem pE: mb∈jm g mb E K:=km.2 (qY (qX rfl))
theorem bw{b:Nat}(h:b∈K):b∈jm g mb E K:=km.2 (qY (qY (qX h)))
theorem gW{b:Nat}{x:Ent}(a:x∈E)(h:b∈x.blocks):b∈jm g mb E K:=km.2 (qY (qY (qY ⟨x,a,h⟩)))
theorem Ka: ∀x∈g::FB E,x∈jm g mb E K:=by
 intro x a;rcases qL.1 a with rfl|a
 ·exact Kt
 ·obtain⟨y,c,b⟩:=lO.1 a;exact gW c b
theorem uD(h:PAt w base g mb vF E K D)(v:Value):ks yz base g (jm g mb E K) w v D (.returned v) w:=⟨_,rfl,h.at,fun _ a=>qX a,ze.refl _ _⟩
theorem dR(h:PAt w' base g mb vF E K D')(a:ze (jm g mb E K) w w')(v:Value):ks yz base g (jm g mb E K) w v D' (.returned v) w':=⟨_,rfl,h.at,fun _ b=>qX b,a⟩
theorem lP{d:Value}(h:PAt w' base g mb d E' [] D')(b:E'.map Ent.blocks=E.map Ent.blocks)(c:ze (g::FB E) w w')(v:Value):ks yz base g (jm g mb E K) w v D' (.returned v) w' :=
 ⟨_,rfl,h.at,fun x a=>qX (NH b x a),c.more (fun x a=>qX (Ka x a))⟩
theorem ks.after{F G:List Nat}{v:Value}{e:Ending}(h:ks yz base g G w1 v D' e w')(b:ze F w w1)(a:∀x∈G,x∈F∨w.heap.size<=x):ks yz base g F w v D' e w':=by
 obtain⟨c,d,f,i,j⟩:=h;refine⟨c,d,f,fun x l=>?_,b.trans j a⟩;rcases i x l with h|h
 ·exact a x h
 ·exact qY (by have:=b.size;omega)
theorem Ke(h:PAt w base g mb vF E K D):Calls prog 151 #[ptr g] w fun e w'=>e = .returned (.bool (!D.down))/\w=w':=by
 obtain⟨c0,c1,c2,b,c,d,f⟩:=h.cells;have i:=qQ (dP c0);cases a:D.down
 all_goals
  rw[a]at b;clear a h c1 c2 c d f c0;go_enter func151,ntmps151;go_wp2_with fail;refine i.out.mono ?_;rintro e w'⟨rfl,rfl⟩;go_wp2;go_ret;exact⟨rfl,rfl⟩
theorem NI(h:PAt w base g mb vF E K D):Calls prog 12 #[ptr g] w fun e w'=>e = .returned (.int .i64 (D.count:Nat))/\w=w':=by
 obtain⟨c0,c1,c2,a,f,b,c⟩:=h.cells;have d:=qQ (dP c0);clear h c1 c2 a b c c0;go_enter func12,ntmps12;go_wp2_with fail;refine d.out.mono ?_;rintro e w'⟨rfl,rfl⟩;go_wp2;go_ret;exact⟨rfl,rfl⟩
theorem NL(h:PAt w base g mb vF E K D):Calls prog 75 #[ptr g] w fun e w'=>e = .returned (.int .i64 (D.qn:Nat))/\w=w':=by
 obtain⟨c0,c1,c2,a,b,f,c⟩:=h.cells;have d:=qQ (dP c0);clear h c1 c2 a b c c0;go_enter func75,ntmps75;go_wp2_with fail;refine d.out.mono ?_;rintro e w'⟨rfl,rfl⟩;go_wp2;go_ret;exact⟨rfl,rfl⟩
theorem NN(h:PAt w base g mb vF E K D)(i:vA D)(n:Tw)(s:n.size<=maxLen):Calls prog 129 #[ptr g,.string n] w fun e w'=>e = .returned (.tuple #[.int .i64 ((jQ D n).1:Nat),err (jQ D n).2])/\w=w':=by
 unfold jQ;cases a:D.down
 ·by_cases d:jW D.l n<D.l.length
  ·obtain⟨x,q,o,r⟩:=fM h d;rw[o];dsimp only[Bool.false_eq_true,if_false];have c:=qQ (lL h a q (by rw[r];exact s));rw[r]at c;have j:=h.xJ x (qO q);obtain⟨u,_,_,_⟩:=j.cells;obtain⟨A,z,t,v,y,_⟩:=dL j.2.2;rw[t]at u;have B:=(i.xY x.f (qO o)).2;clear h i q o r j t d a v y;generalize x.f.data.size=m at*;generalize x.b=b at*;go_enter func129,ntmps129;go_wp2_with fail;refine c.out.mono ?_;rintro e w'⟨rfl,rfl⟩;go_wp2;go_ret2;exact⟨rfl,rfl⟩
  ·have c:=qQ (lM h a d s);rw[Qb d];clear h i d a;go_enter func129,ntmps129;go_wp2_with fail;refine c.out.mono ?_;rintro e w'⟨rfl,rfl⟩;go_wp2;go_ret2;exact⟨rfl,rfl⟩
 ·have c:=qQ (lN h a n);clear h i a;go_enter func129,ntmps129;go_wp2_with fail;refine c.out.mono ?_;rintro e w'⟨rfl,rfl⟩;go_wp2;go_ret2;exact⟨rfl,rfl⟩
theorem NO(f:Value)(keep:List Int)(h:PAt w base g mb vF E K D)(l:vA D)(c:ju w f keep)(j:∀b,f.ownBlock=some b->b ∉ jm g mb E K):
  Calls prog 25 #[ptr g,f] w (ks yz base g (jm g mb E K) w (err (gv D keep).1) (gv D keep).2):=by
 have a:=qQ (nG h);have u:=qQ h;have i:=qQ (Ks f keep h l c (fun _ b v y=>j b v (Ka b (qF _ y))));obtain⟨A,off,B,rfl,-⟩:=c.cell;generalize keep.length=C at*;unfold bo at a;unfold gv;cases d:D.down
 ·rw[d]at a;clear d h l c j;go_enter func25,ntmps25;go_wp2_with fail;refine a.out.mono ?_;rintro e w'⟨rfl,rfl⟩;go_wp2_with fail;refine i.out.mono ?_;rintro e F⟨z,rfl,m,o,q⟩;have r:=qQ m;have s:=qQ o;have t:=qQ q;clear m o q i;go_wp2;go_ret;exact lP r.out s.out t.out _
 ·rw[d]at a;clear d h l c j i;go_enter func25,ntmps25;go_wp2_with fail;refine a.out.mono ?_;rintro e w'⟨rfl,rfl⟩;go_wp2;go_ret;exact uD u.out _
end
end
section
open Go.RowKit Go.Maps
def vo(E:List Ent)(left:Lit->Bool):Nat:=(E.map (fun x=>if left (vL x.f.name) then 0 else x.f.data.size)).sum
theorem nC(x:Ent)(E:List Ent)(left:Lit->Bool):vo (x::E) left=(if left (vL x.f.name) then 0 else x.f.data.size)+vo E left:=by unfold vo;rw[List.map_cons,List.sum_cons]
theorem NP{E:List Ent}{left:Lit->Bool}(h:∀x∈E,left (vL x.f.name)=true):vo E left=0:=by
 induction E with
 | nil=>rfl
 | cons x E b =>
   rw[nC,qK (h x (by simp)),b (fun y a=>h y (by simp[a]))]
theorem NR{E:List Ent}{left:Lit->Bool}(h:∀b,left b=false):vo E left=jX (E.map Ent.f):=by
 induction E with
 | nil=>rfl
 | cons x E a =>
   rw[nC,h,a,List.map_cons,lZ];rfl
theorem NS{E:List Ent}{a b:Lit->Bool}(h:∀x∈E,a (vL x.f.name)=b (vL x.f.name)):vo E a=vo E b:=by
 unfold vo;congr 1;apply List.map_congr_left;intro x c;rw[h x c]
theorem Ki(E:List Ent)(left:Lit->Bool):vo E left<=jX (E.map Ent.f):=by
 induction E with
 | nil=>exact qZ _
 | cons x E a =>
   rw[nC,List.map_cons,lZ];have:(if left (vL x.f.name) then 0 else x.f.data.size)<=x.f.data.size:=(by split<;>omega);omega
theorem NT{E:List Ent}(i:E.Pairwise (fun x y=>x.f.name≠y.f.name)){left:Lit->Bool}{x:Ent}(a:x∈E)(d:left (vL x.f.name)=true):vo E (fun z=>left z&&!z.sameKey (vL x.f.name))=vo E left+x.f.data.size:=by
 induction E with
 | nil=>cases a
 | cons y E o =>
   obtain⟨b,c⟩:=List.pairwise_cons.1 i;rw[nC,nC];have l:(vL x.f.name).sameKey (vL x.f.name)=true:=WideAt.sameKey_self (Ji _);rcases qL.1 a with rfl|a
   ·rw[d,l]
    have j:vo E (fun z=>left z&&!z.sameKey (vL x.f.name))=vo E left:=NS (fun y m=>by
     rw[sameKey_ne (fun e=>b y m (lB e).symm)];simp)
    rw[j];show x.f.data.size+vo E left=0+vo E left+x.f.data.size;omega
   ·rw[o c a,sameKey_ne (fun e=>b x a (lB e))];simp only[Bool.not_false,Bool.and_true];omega
def pF: Option Nat->Value
 | none=>.pointer none
 | some b=>.pointer (some ⟨b,0,none⟩)
theorem N0(a:Value)(c:Lit)(h:keyOf prog 9 a=some c):∃x:List UInt8,a=encStr x:=by
 obtain⟨x,b,_⟩:=Maps.keyOf_str Tryz.underlying9 h;exact⟨x,b⟩
theorem N3(v:Value)(y:DataW Unit × List MemPlace)(h:yx v=some y):∃c,v=pF c:=by
 rcases pJ h with⟨rfl,_⟩|⟨b,rfl,_⟩
 ·exact⟨none,rfl⟩
 ·exact⟨some b,rfl⟩
section
variable {w:World}{base g mb:Nat}{vF:Value}{E:List Ent}{K:List Nat}{D:zr}
theorem N5{o:DataW Unit}(hi:bf o (E.map Ent.nb)){x:List UInt8}{l:Lit}(F:keyOf prog 9 (encStr x)=some l){c:Option Nat}{y:DataW Unit × List MemPlace}(C:yx (pF c)=some y)(j:∀J,o.atKey l J=y.1):
  ∃z∈E,l=vL z.f.name/\c=some z.b:=by
 obtain⟨m,_,rfl,_⟩:=Maps.keyOf_str Tryz.underlying9 F;have s:=Maps.has_true_of_atKey j;have e:(Lit.string m)=vL ⟨m.toArray⟩:=by unfold vL;simp
 rw[e]at s j ⊢;obtain⟨p,u,H⟩:=hi.mem s;obtain⟨z,I,rfl⟩:=qN.1 u;have t:z.f.name=⟨m.toArray⟩:=H;refine⟨z,I,by rw[t], ?_⟩;have A:=hi.yes _ u .nil;have r:=j .nil;rw[<-t]at r;have a:y.1 = .lit (.int .i64 (z.b:Int)):=r.symm.trans A;rcases pJ C with⟨d,i⟩|⟨b,d,i⟩
 ·rw[i]at a;simp only[DataW.lit.injEq,Lit.int.injEq,true_and]at a;omega
 ·rw[i]at a;simp only[DataW.lit.injEq,Lit.int.injEq,true_and]at a;have B:b=z.b:=by omega
  cases c with
  | none=>cases (show Value.pointer none = .pointer (some ⟨b,0,none⟩) from d)
  | some v =>
    have q:Value.pointer (some ⟨v,0,none⟩) = .pointer (some ⟨b,0,none⟩):=d;simp only[Value.pointer.injEq,Option.some.injEq,Addr.mk.injEq,and_true]at q;rw[q,B]
def QJ(w:World)(D:zr)(e:Ending)(w':World):Prop:=e = .returned (.int .i64 ((D.cap:Int)-(jX D.l:Nat)))/\ze [] w w'
theorem Ko(h:PAt w base g mb vF E K D)(q:vA D):Calls prog 177 #[ptr g] w (QJ w D):=by
 obtain⟨c0,c1,c2,c3,c4,c5,c6⟩:=h.cells;have hn:=qQ (dP c0);obtain⟨n,d,Q,o⟩:=h.map
 have S:E.Pairwise (fun x y=>x.f.name≠y.f.name):=by
  have:=Je h.qo;rw[h.xZ]at this;exact(List.pairwise_map (f:=Ent.f) (R:=fun x y=>x.name≠y.name)).1 this
 have T:jX (E.map Ent.f)<=1048576:=by rw[<-h.xZ];exact q.used
 have I:=q.cap;have N:=h.xZ;have Z:=qQ h.xJ;have HI:=qQ o;have ab:=qQ S;have j:=qQ T;have aa:=qQ N;have Y:=qQ I;have ad:=qQ (NP (E:=E) (left:=Maps.has d) (fun x hx=>o.has (qN.2 ⟨x,hx,rfl⟩)));have ar:=Q.lt;clear h q o S T I N c0 c3 c4 c5 c6;go_enter func177,ntmps177;go_wp2_with fail;refine hn.out.mono ?_;rintro e w'⟨rfl,rfl⟩
 go_wp2_with (first
  | (at_range;refine wpList_range_own _ rfl _ 80 rfl 9 149 fD Tryz.underlying80 yx mb n d rfl Q ?_;intro w0 al ag ap)
  | go_in)
 go_frame
 go_loopw [3] (fun v wr=>∃(left:Lit->Bool) (l:Nat),wr.ranges prog 9 yx mb w.heap.size n d left l/\ze [] w wr/\v = .int .i64 ((D.cap:Int)-(vo E left:Nat)))
  (fun _ wr=>wr.rangeLeft mb w.heap.size)
 case atStart=>exact⟨_,_,al,(ze.refl [] w).grown ag (fun k a=>by cases a),by rw[ad.out];simp⟩
 case round =>
  obtain⟨left,l,i,F,rfl⟩:=hrel;have C:=Ki E left;have b0:=j.out;have b2:-1048576<=(D.cap:Int)-(vo E left:Nat):=by omega
  have b3:(D.cap:Int)-(vo E left:Nat)<=1048576:=by have:=Y.out;omega
  have B:=qQ F;have HB:=qQ C;clear F C b0
  go_wp2_with (first
   | (at_next;refine wpList_next_ranges _ rfl _ rfl 9 fD yx encStr pF N0 N3 mb w.heap.size n d left l rfl i ?_ ?_)
   | go_in)
  ·intro _ M;have J:=qQ (NR (E:=E) M);rw[<-aa.out]at J;generalize vo E left=s at*;clear i M;go_wp2;go_ret;exact⟨by rw[J.out];rfl,B.out⟩
  ·intro x c kl y1 y2 w1 ao W P V H r O L am af;obtain⟨z,u,rfl,rfl⟩:=N5 (y:=(y1,y2)) HI.out W V H;have t:ze [] w w1:=(B.out).grown L (fun k a=>by injection a with a;exact qY (Nat.le_of_eq a));have m:=(Z.out z u).qa t (fun b _=>by simp);obtain⟨d0,_,_,_⟩:=m.cells;obtain⟨A,an,U,-,-,-⟩:=dL m.2.2;rw[U]at d0;have hst:=NT ab.out u P;have ah:=Ki E (fun X=>left X&&!X.sameKey (vL z.f.name));have aq:(z.f.data.size:Int)<=1048576:=(by have:=j.out;omega);have ak:=qQ (r.left_eq);have aj:=qQ (i.left_eq);have ae:=qQ t;have ac:=qQ r;have HS:=qQ hst;have b4:-1048576<=(D.cap:Int)-(vo E left:Nat)-(z.f.data.size:Nat):=(by have:=j.out;omega);clear H r L am i m U hst ah W P V t u;have ai:=qQ O;clear O;generalize z.f.data.size=zs at*;generalize vo E left=s at*;generalize z.b=zb at*;dsimp only[pF]at af ⊢;go_wp2;go_roundw
   case rel=>exact⟨_,_,ac.out,ae.out,by rw[HS.out];exact Y8 (by omega)⟩
   case measure=>rw[ak.out,aj.out];exact ai.out
end
end
section
open Go.RowKit
theorem Kw{l:List zi}{k:Nat}{f:zi}(h:l[k]? = some f)(g:zi->zi):ja l k g=l.set k (g f):=by
 apply List.ext_getElem?;intro j;rw[Qg,List.getElem?_set];have b:=(qM.1 h).1;by_cases e:j=k
 ·subst e;rw[qK rfl,qK rfl,qK b,h];rfl
 ·rw[qJ e,qJ (fun a=>e a.symm)]
section
variable {w w1 w':World}{base g mb:Nat}{vF:Value}{E E':List Ent}{K G:List Nat}{D D':zr}
theorem N7(h:PAt w base g mb vF E K D){k:Nat}{x:Ent}(o:E[k]? = some x)(x':Ent)(a:x'.b=x.b)(u:x'.f.name=x.f.name)(q:ze G w w')(m:∀b∈G,b∈x.blocks)(t:kG w' base x')
  (r:∀b,x'.v.ownBlock=some b->x.v.ownBlock=some b∨w.heap.size<=b) (v:Value) (s:D'={ D with l:=D.l.set k x'.f }):ks yz base g (jm g mb E K) w v D' (.returned v) w':=by
 subst s;have d:=qO o;refine⟨_,rfl,(h.xe o x' a u q m t r).at,fun y A=>?_,q.more (fun b a=>qX (gW d (m b a)))⟩;rcases km.1 A with e|e|e|⟨z,j,i⟩
 ·exact qX (km.2 (qX e))
 ·exact qX (km.2 (qY (qX e)))
 ·exact qX (bw e)
 ·rcases List.mem_or_eq_of_mem_set j with j|rfl
  ·exact qX (gW j i)
  ·simp only[Ent.blocks,List.mem_cons,Option.mem_toList]at i;rcases i with e|e
   ·exact qX (gW d (by rw[e,a];simp[Ent.blocks]))
   ·rcases r y e with c|c
    ·exact qX (gW d (by simp[Ent.blocks,c]))
    ·exact qY c
theorem N8{D E:zr}(h:vV D=true):vw D E=(0, { E with fails:=D.fails-1 }):=by unfold vw;rw[qK h]
theorem N9{D E:zr}(h:vV D=false):vw D E=(61,vr D D.keep):=by unfold vw;rw[h];rfl
theorem Nq{D:zr}{n:Tw}(a:D.down=false)(b:jW D.l n<D.l.length):j6 D n=vw D { D with l:=ja D.l (jW D.l n) (fun f=>{ f with synced:=f.data.size }) }:=by unfold j6;rw[a,qK b];rfl
theorem Nx{D:zr}{n:Tw}(a:D.down=false)(b:¬jW D.l n<D.l.length):j6 D n=(4,D):=by unfold j6;rw[a,qJ b];rfl
theorem Nz{D:zr}{n:Tw}(a:D.down=true):j6 D n=(61,D):=by unfold j6;rw[a];rfl
theorem Nj(h:PAt w base g mb vF E K D)(o:vA D)(n:Tw)(I:n.size<=maxLen):Calls prog 160 #[ptr g,.string n] w (ks yz base g (jm g mb E K) w (err (j6 D n).1) (j6 D n).2):=by
 have C:=qQ h;cases a:D.down
 ·by_cases d:jW D.l n<D.l.length
  ·obtain⟨x,u,t,y⟩:=fM h d;have i:=qQ (lL h a u (by rw[y];exact I));rw[y]at i;rw[Nq a d];generalize jW D.l n=k at*;cases m:vV D
   ·have r:=qQ (nB h o m);rw[N9 m];generalize vr D D.keep=S at*;clear h o u t y d a m;go_enter func160,ntmps160;go_wp2_with fail;refine i.out.mono ?_;rintro e w'⟨rfl,rfl⟩;go_wp2_with fail;refine r.out.mono ?_;rintro e R⟨E',rfl,j,q,H⟩;have z:=qQ j;have B:=qQ q;have M:=qQ H;clear j q H r;go_wp2;go_ret;exact lP z.out B.out M.out _
   ·have r:=qQ (nA h m);rw[N8 m];have L:=(o.xY x.f (qO t)).2;have F:=qQ u;have N:=qQ t;have P:=qQ L;clear h o u t y d a m L;go_enter func160,ntmps160;go_wp2_with fail;refine i.out.mono ?_;rintro e w'⟨rfl,rfl⟩;go_wp2_with fail;refine r.out.mono ?_;rintro e R⟨rfl,j,q⟩;have s:=j.xJ x (qO F.out);obtain⟨Q,U,V,W⟩:=s.cells;obtain⟨A,T,J,-,-,-⟩:=dL s.2.2;rw[J]at Q;have X:=P.out;have O:=qQ (s.xx x.f.data.size);have z:=qQ j;have B:=qQ q;clear j q r s J;go_wp2;go_ret;refine ks.after (N7 (G:=[x.b]) z.out F.out ⟨⟨x.f.name,x.f.data,x.f.data.size⟩,x.b,x.v⟩ rfl rfl ((ze.refl _ _).setCell (p:=⟨x.b,1,none⟩) (qX (qE.2 rfl)) _) (fun b c=>by rw[qE.1 c];simp[Ent.blocks]) O.out (fun b c=>qX c) _ ?_) (B.out.more (fun b c=>qX (bw c))) (fun b c=>qX c);show _=({ ug D with l:=D.l.set k _ }:zr)
    rw[Kw N.out];rfl
  ·have i:=qQ (lM h a d I);rw[Nx a d];clear h o d a;go_enter func160,ntmps160;go_wp2_with fail;refine i.out.mono ?_;rintro e w'⟨rfl,rfl⟩;go_wp2;go_ret;exact uD C.out _
 ·have i:=qQ (lN h a n);rw[Nz a];clear h o a;go_enter func160,ntmps160;go_wp2_with fail;refine i.out.mono ?_;rintro e w'⟨rfl,rfl⟩;go_wp2;go_ret;exact uD C.out _
end
section
variable {w w1 w':World}{base g mb:Nat}{vF:Value}{E E':List Ent}{K G:List Nat}{D D':zr}
theorem Nk{n s:Tw}(a:D.down=true):jF D n s=(61,D):=by unfold jF;rw[a];rfl
theorem Nv{n s:Tw}(a:D.down=false)(b:¬jW D.l n<D.l.length):jF D n s=(4,D):=by unfold jF;rw[a,qJ b];rfl
theorem Ny{n s:Tw}(a:D.down=false)(b:jW D.l n<D.l.length)(c:D.cap<jX D.l+s.size):jF D n s=(60,D):=by unfold jF;rw[a,qK b,qK c];rfl
theorem Nu{n s:Tw}(a:D.down=false)(b:jW D.l n<D.l.length)(d:¬D.cap<jX D.l+s.size)(c:vV D=true):jF D n s=(0,ug (yB D n s)):=by unfold jF;rw[a,qK b,qJ d,qK c];rfl
theorem Ng{n s:Tw}(a:D.down=false)(b:jW D.l n<D.l.length)(d:¬D.cap<jX D.l+s.size)(c:vV D=false):jF D n s=(61,vr (yB D n s) D.keep):=by unfold jF;rw[a,qK b,qJ d,c];rfl
theorem vA.app{D:zr}(h:vA D){k:Nat}{f:zi}(c:D.l[k]? = some f)(s:Tw)(d:jX D.l+s.size<=D.cap):vA { D with l:=ja D.l k (fun f=>{ f with data:=f.data++s }) }:=by
 have b:nr { D with fails:=0 }:=⟨h.xY,h.many,h.used,h.cap,qH _⟩
 have a:=b.app (k:=k) (f:=f) c s d;exact⟨a.xY,a.many,a.used,a.cap⟩
theorem Nb{k:Nat}{x:Ent}(j:E[k]? = some x){x':Ent}(i:x'.b=x.b){z:Nat}(l:∀b,x'.v.ownBlock=some b->x.v.ownBlock=some b∨z<=b):∀y∈jm g mb (E.set k x') K,y∈jm g mb E K∨z<=y:=by
 have f:=qO j;intro y m;rcases km.1 m with e|e|e|⟨z,d,a⟩
 ·exact qX (km.2 (qX e))
 ·exact qX (km.2 (qY (qX e)))
 ·exact qX (bw e)
 ·rcases List.mem_or_eq_of_mem_set d with d|rfl
  ·exact qX (gW d a)
  ·simp only[Ent.blocks,List.mem_cons,Option.mem_toList]at a;rcases a with e|e
   ·exact qX (gW f (by rw[e,i];simp[Ent.blocks]))
   ·rcases l y e with c|c
    ·exact qX (gW f (by simp[Ent.blocks,c]))
    ·exact qY c
theorem Nc(h:PAt w base g mb vF E K D){k:Nat}{x:Ent}(o:E[k]? = some x){a:Value}{s:Tw}(i:uT w1 base a (x.f.data++s))(j:w.grownBy w1 x.v.ownBlock)(q:a.ownBlock=x.v.ownBlock∨a.ownBlock=some w.heap.size):
  kG (w1.setCell ⟨x.b,0,none⟩ a) base ⟨⟨x.f.name,x.f.data++s,x.f.synced⟩,x.b,a⟩/\ze x.blocks w (w1.setCell ⟨x.b,0,none⟩ a)/\w1.cell? ⟨x.b,0,none⟩=some x.v/\w1.frozen? ⟨x.b,0,none⟩=false:=by
 have c:=h.xJ x (qO o);have m:ze x.blocks w w1:=(ze.refl _ w).grown j (fun k l=>qX (by simp[Ent.blocks,l]))
 have d:za w1 x.b 215 #[x.v,.int .i64 (x.f.synced:Nat)]:=by
  refine(j.block x.b c.1.lt (fun e=>?_)).trans c.1;exact kv c.2.2 c.1 (by decide) e.symm
 exact⟨⟨d.put 0 a,c.2.1,vW i (kv i d (by decide)) _⟩,m.setCell (p:=⟨x.b,0,none⟩) (qX (by simp[Ent.blocks])) _,d.cell 0,d.frozen 0⟩
theorem Nd(h:PAt w base g mb vF E K D)(d:vA D)(n s:Tw)(hn:n.size<=maxLen)(hs:s.size<=1099511627776):Calls prog 203 #[ptr g,.string n,.string s] w (ks yz base g (jm g mb E K) w (err (jF D n s).1) (jF D n s).2):=by
 have M:=qQ h;cases a:D.down
 ·by_cases j:jW D.l n<D.l.length
  ·obtain⟨x,o,H,P⟩:=fM h j;have q:=qQ (lL h a o (by rw[P];exact hn));rw[P]at q;have B:=qQ (Ko h d);by_cases J:D.cap<jX D.l+s.size
   ·rw[Ny a j J];have q1:(D.cap:Int)-(jX D.l:Nat)<(s.size:Int):=(by omega);have q2:=d.cap;have q3:=d.used;clear h d o H P j a J;unfold QJ at B;generalize jX D.l=u at*;go_enter func203,ntmps203;go_wp2_with fail;refine q.out.mono ?_;rintro e w'⟨rfl,rfl⟩;go_wp2_with fail;refine B.out.mono ?_;rintro e w2⟨rfl,r⟩;have HT:=qQ r;clear r B;go_wp2;go_ret;exact dR (M.out.qa HT.out (fun _ _=>by simp)) (HT.out.more (fun x o=>by cases o)) _
   ·have q1:decide ((D.cap:Int)-(jX D.l:Nat)<(s.size:Int))=false:=qG (by omega);have q2:=d.cap;have q3:=d.used;have al:s.size<=1048576:=(by omega);have ax:=qQ al;have W:=d.app H s (by omega);have ap:=(d.xY x.f (qO H)).2;have U:yB D n s={ D with l:=ja D.l (jW D.l n) (fun f=>{ f with data:=f.data++s }) }:=rfl;rw[<-U]at W;have ae:yB D n s={ D with l:=D.l.set (jW D.l n) ⟨x.f.name,x.f.data++s,x.f.synced⟩ }:=(by rw[U,Kw H]);have ai:vV (yB D n s)=vV D:=rfl;have ak:(yB D n s).keep=D.keep:=rfl;have hA:=Nu (s:=s) a j J;have hB:=Ng (s:=s) a j J;have aw:=qQ W;have HA:=qQ hA;have HB:=qQ hB;have aa:=qQ ae;have C:=qQ o;have ay:=qQ ap;have HG:=qQ ai;have av:=qQ ak;clear h d o H P j a J al W hA hB U ae ap ai ak;unfold QJ at B;generalize jW D.l n=k at*;generalize jX D.l=u at*;go_enter func203,ntmps203;go_wp2_with fail;refine q.out.mono ?_;rintro e w'⟨rfl,rfl⟩;go_wp2_with fail;refine B.out.mono ?_;rintro e w2⟨rfl,r⟩;have t:=M.out.qa r (fun _ _=>by simp);have O:=t.xJ x (qO C.out);have af:base<=w2.heap.size:=(by have:=t.gb;have:=t.qi.lt;omega);obtain⟨L,w3,T,V,aj,Z⟩:=La O.2.2 s (by have:=ay.out;have:=ax.out;omega) af 154;obtain⟨ag,Y,aB,aC⟩:=Nc t C.out V aj Z;obtain⟨d0,d1,g0,g1⟩:=O.cells;obtain⟨A,az,hv,-,-,-⟩:=dL O.2.2;obtain⟨A',aA,ao,-,-,-⟩:=dL V
    have X:∀b,L.ownBlock=some b->x.v.ownBlock=some b∨w2.heap.size<=b:=fun b i=>by
     rcases Z with c|c
     ·exact qX (c ▸ i)
     ·rw[c]at i;injection i with i;exact qY (Nat.le_of_eq i)
    have N:=t.xe C.out ⟨⟨x.f.name,x.f.data++s,x.f.synced⟩,x.b,L⟩ rfl rfl Y (fun b i=>i) ag X;have hD:({ D with l:=D.l.set k ⟨x.f.name,x.f.data++s,x.f.synced⟩ }:zr)=yB D n s:=aa.out.symm;dsimp only at N;rw[hD]at N;have am:=Nb (g:=g) (mb:=mb) (K:=K) C.out (x':=⟨⟨x.f.name,x.f.data++s,x.f.synced⟩,x.b,L⟩) rfl X;have ad:ze (jm g mb E K) w (w3.setCell ⟨x.b,0,none⟩ L):=(r.more (fun x o=>by cases o)).trans Y (fun b i=>qX (gW (qO C.out) i));have an:∀y∈jm g mb (E.set k ⟨⟨x.f.name,x.f.data++s,x.f.synced⟩,x.b,L⟩) K,y∈jm g mb E K∨w.heap.size<=y:=fun y hy=>(am y hy).imp id (fun c=>qR r.size c)
    have HP:=qQ N;have ac:=qQ ad;have ab:=qQ an;rw[hv]at T d0;have aq:(x.f.data++s).size=x.f.data.size+s.size:=qT;rw[aq]at ao;subst ao;clear t O af V aj Z ag Y hv X N hD am ad an r B aq g1 d1 aa;have ar:=qQ T;clear T;go_wp2_with (first | (at_builtin;refine yc rfl _ _ rfl rfl rfl ar.out ?_) | fail);have m:vV D=true∨vV D=false:=(by cases vV D<;>simp);rcases m with m|m
    ·have z:=qQ (nA HP.out (HG.out.trans m));have R:=qQ (HA.out m);clear m;go_wp2_with fail;refine z.out.mono ?_;rintro e w4⟨rfl,F,I⟩;have Q:=qQ F;have S:=qQ I;clear F I z;go_wp2;go_ret;rw[R.out];exact ks.after (dR Q.out (S.out.more (fun y hy=>qX (bw hy))) _) ac.out ab.out
    ·have z:=qQ (nB HP.out aw.out (HG.out.trans m));have R:=qQ (HB.out m);rw[av.out]at z;clear m;go_wp2_with fail;refine z.out.mono ?_;rintro e w4⟨E4,rfl,F,ah,I⟩;have Q:=qQ F;have au:=qQ ah;have S:=qQ I;clear F ah I z;go_wp2;go_ret;rw[R.out];exact ks.after (lP Q.out au.out S.out _) ac.out ab.out
  ·have q:=qQ (lM h a j hn);rw[Nv a j];clear h d j a;go_enter func203,ntmps203;go_wp2_with fail;refine q.out.mono ?_;rintro e w'⟨rfl,rfl⟩;go_wp2;go_ret;exact uD M.out _
 ·have q:=qQ (lN h a n);rw[Nk a];clear h d a;go_enter func203,ntmps203;go_wp2_with fail;refine q.out.mono ?_;rintro e w'⟨rfl,rfl⟩;go_wp2;go_ret;exact uD M.out _
end
section
variable {w w1 w':World}{base g mb:Nat}{vF:Value}{E E':List Ent}{K G:List Nat}{D D':zr}
abbrev Nf(base g:Nat)(F:List Nat)(w:World)(r:Tw × Nat × zr):Ending->World->Prop:=ks yz base g F w (.tuple #[.string r.1,err r.2.1]) r.2.2
theorem Nh(h:PAt w base g mb vF E K D)(y:vA D)(ae:D.count<=1099511627776)(n:Tw)(a k:Int)(hn:n.size<=maxLen)(t:(Lit.int .i64 a).wf=true)(u:(Lit.int .i64 k).wf=true):Calls prog 130 #[ptr g,.string n,.int .i64 a,.int .i64 k] w (Nf base g (jm g mb E K) w (jx D n a k)):=by
 have HH:=qQ h;have s:=qQ (Ke h);cases d:D.down
 case true =>
  have j:=qQ (lN h d n);rw[Ca d];rw[d]at s;clear h y d t u;go_enter func130,ntmps130;go_wp2_with fail;refine s.out.mono ?_;rintro e w'⟨rfl,rfl⟩;go_wp2_with fail;refine j.out.mono ?_;rintro e w'⟨rfl,rfl⟩;go_wp2;go_ret2;exact uD HH.out _
 obtain⟨c0,c1,c2,L,c4,M,N⟩:=h.cells;have f4:=h.qi.frozen 4;have i:PAt (w.setCell ⟨g,4,none⟩ (.int .i64 ((D.count:Int)+1))) base g mb vF E K (oO D):=h.zH (D.count+1);have I:=qQ i;have J:=qQ (show ze (jm g mb E K) w (w.setCell ⟨g,4,none⟩ (.int .i64 ((D.count:Int)+1))) from(ze.refl _ _).setCell (p:=⟨g,4,none⟩) (qX Kt) _);rw[d]at s;by_cases r:jW D.l n<D.l.length
 case neg =>
  have j:=qQ (lM i d r hn);rw[Ce d r];clear h i y r d t u c0 c1 c2 L M N;go_enter func130,ntmps130;go_wp2_with fail;refine s.out.mono ?_;rintro e w'⟨rfl,rfl⟩;go_wp2_with fail;refine j.out.mono ?_;rintro e w'⟨rfl,rfl⟩;go_wp2;go_ret2;exact dR I.out J.out _
 obtain⟨x,F,v,H⟩:=fM h r;have j:=qQ (lL i d F (by rw[H];exact hn));rw[H]at j;have o:=i.xJ x (qO F);have hz:=(y.xY x.f (qO v)).2;obtain⟨U,_,_,_⟩:=o.cells;have S:=bounds_i64 t;have T:=bounds_i64 u;by_cases C:a<0∨k<0∨(x.f.data.size:Int)<a∨(x.f.data.size:Int)-a<k
 ·rw[Ci d v C];obtain⟨A,B,hv,-,-,-⟩:=dL o.2.2;rw[hv]at U;have aa:a<0∨(0<=a/\k<0)∨(0<=a/\0<=k/\(x.f.data.size:Int)-a<k):=by omega
  clear h i y r d t u c0 c1 c2 L M N o hv F v H C;generalize x.f.data.size=z at*;generalize x.b=xb at*;rcases aa with q|⟨q1,q⟩|⟨q1,q2,q⟩
  case' inl =>
   have R:decide (a<0)=true:=qW q
  case' inr.inl =>
   have R:decide (a<0)=false:=qG (by omega);have V:decide (k<0)=true:=qW q
  case' inr.inr =>
   have R:decide (a<0)=false:=qG (by omega);have V:decide (k<0)=false:=qG (by omega);have X:decide ((z:Int)-a<k)=true:=qW q;have t4:-9223372036854775808<=(z:Int)-a:=(by omega);have t5:(z:Int)-a<=9223372036854775807:=by omega
  all_goals
   go_enter func130,ntmps130;go_wp2_with fail;refine s.out.mono ?_;rintro e w'⟨rfl,rfl⟩;go_wp2_with fail;refine j.out.mono ?_;rintro e w'⟨rfl,rfl⟩;go_wp2;go_ret2;exact dR I.out J.out _
 ·rw[Co d v C];obtain⟨p,rfl⟩:∃p:Nat,a=p:=⟨a.toNat,by omega⟩
  obtain⟨m,rfl⟩:∃m:Nat,k=m:=⟨k.toNat,by omega⟩
  rw[qh,qh];have Q:p+m<=x.f.data.size:=by omega
  have R:decide ((p:Int)<0)=false:=qG (by omega);have V:decide ((m:Int)<0)=false:=qG (by omega);have X:decide ((x.f.data.size:Int)-(p:Int)<(m:Int))=false:=qG (by omega);have t4:(p:Int)+(m:Int)<=(x.f.data.size:Int):=by omega
  have t5:(x.f.data.size:Int)<=1048576:=by omega
  have t6:(0:Int)<=(p:Int):=by omega
  have t7:(p:Int)<=(p:Int)+(m:Int):=by omega
  have t8:((p:Int)+(m:Int)).toNat=p+m:=by omega
  have t9:p+m-p=m:=by omega
  rcases Kh o.2.2 with⟨e,e2⟩|⟨b,B,e,n1,n2,ac,ad⟩
  ·obtain rfl:p=0:=(by omega);obtain rfl:m=0:=by omega
   have O:x.f.data.extract 0 (0+0)=ByteArray.empty:=by
    apply ByteArray.ext;rw[ByteArray.data_extract];apply Array.eq_empty_of_size_eq_zero;rw[Array.size_extract];omega
   rw[O];rw[e]at U;have Y:=fun W=>Jw W none 0
   clear h i y r d t u c0 c1 c2 L M N o e F v H C O R V X t4 t5 t6 t7 t8 t9 S T Q;go_enter func130,ntmps130;go_wp2_with fail;refine s.out.mono ?_;rintro e w'⟨rfl,rfl⟩;go_wp2_with fail;refine j.out.mono ?_;rintro e w'⟨rfl,rfl⟩;go_wp2;go_ret2;exact dR I.out J.out _
  ·have P:=o.2.2;rw[e]at U P;unfold maxLen at n2;have af:(p:Int)+(m:Int)<=(B:Int):=(by omega);by_cases Z:m=0
   ·subst Z
    have O:x.f.data.extract p (p+0)=ByteArray.empty:=by
     apply ByteArray.ext;rw[ByteArray.data_extract];apply Array.eq_empty_of_size_eq_zero;rw[Array.size_extract];omega
    rw[O];have Y:=fun W A c=>Jw W A c
    have ag:(p:Int)<=(B:Int):=(by omega);have X:decide ((x.f.data.size:Int)-(p:Int)<0)=false:=qG (by omega);by_cases ab:B=p
    all_goals
     clear h i y r d t u c0 c1 c2 L M N o e F v H C O S T Q P;go_enter func130,ntmps130;go_wp2_with fail;refine s.out.mono ?_;rintro e w'⟨rfl,rfl⟩;go_wp2_with fail;refine j.out.mono ?_;rintro e w'⟨rfl,rfl⟩;go_wp2;go_ret2;exact dR I.out J.out _
   ·have Y:=fun c=>Le P Q c
    have ab:¬B=p:=(by omega);have ah:(p:Int)<=(B:Int):=(by omega);clear h i y r d t u c0 c1 c2 L M N o e F v H C S T Q P Z;go_enter func130,ntmps130;go_wp2_with fail;refine s.out.mono ?_;rintro e w'⟨rfl,rfl⟩;go_wp2_with fail;refine j.out.mono ?_;rintro e w'⟨rfl,rfl⟩;go_wp2;go_ret2;exact dR I.out J.out _
end
def gT(E:List Ent)(x:Ent):List Ent:=E.take (vO (E.map Ent.f) x.f.name)++[x]++E.drop (vO (E.map Ent.f) x.f.name)
def vh(E:List Ent)(k:Nat):List Ent:=E.take k++E.drop (k+1)
def gA(E:List Ent)(n:Tw):List Ent:=if jW (E.map Ent.f) n<E.length then vh E (jW (E.map Ent.f) n) else E
section
variable {E:List Ent}{x:Ent}{k:Nat}{n:Tw}
theorem VQ: (gT E x).map Ent.f=kH (E.map Ent.f) x.f:=by
 unfold gT kH;rw[List.map_append,List.map_append,List.map_take,List.map_drop];rfl
theorem pH: (vh E k).map Ent.f=ku (E.map Ent.f) k:=by
 unfold vh ku;rw[List.map_append,List.map_take,List.map_drop]
theorem VX: (gA E n).map Ent.f=bV (E.map Ent.f) n:=by
 unfold gA bV;rw[qj];split
 ·exact pH
 ·rfl
theorem bF: (gT E x).Perm (x::E):=by
 unfold gT;rw[qd];have h:(List.take (vO (E.map Ent.f) x.f.name) E++([x]++List.drop (vO (E.map Ent.f) x.f.name) E)).Perm (([x]++List.drop (vO (E.map Ent.f) x.f.name) E)++List.take (vO (E.map Ent.f) x.f.name) E):=List.perm_append_comm;refine h.trans ?_;rw[qd];refine List.Perm.cons x ?_;have a:(List.drop (vO (E.map Ent.f) x.f.name) E++List.take (vO (E.map Ent.f) x.f.name) E).Perm (List.take (vO (E.map Ent.f) x.f.name) E++List.drop (vO (E.map Ent.f) x.f.name) E):=List.perm_append_comm;rw[ql]at a;exact a
theorem pI(h:E[k]? = some x):E.Perm (x::vh E k):=by
 have b:=(qM.1 h).1
 have e:E=E.take k++(x::E.drop (k+1)):=by
  have c:E.drop k=x::E.drop (k+1):=by
   rw[List.drop_eq_getElem_cons b];congr 1;rw[qD b]at h;simpa using h
  rw[<-c,ql]
 have a:(E.take k++(x::E.drop (k+1))).Perm (x::(E.take k++E.drop (k+1))):=List.perm_middle;unfold vh;rw[<-e]at a;exact a
theorem cQ: (vh E k).Sublist E:=by
 unfold vh;have e:E=E.take k++E.drop k:=(ql k E).symm;have h:(E.drop (k+1)).Sublist (E.drop k):=by rw[<-List.drop_drop];exact List.drop_sublist _ _
 have a:=(List.Sublist.refl (E.take k)).append h;rw[ql]at a;exact a
theorem nD: (gA E n).Sublist E:=by
 unfold gA;split
 ·exact cQ
 ·exact List.Sublist.refl _
theorem VZ{x y:Ent}(h:uq x y):uq y x:=⟨fun e=>h.1 e.symm,fun b a c=>h.2 b c a⟩
theorem VJ(h:(x::E).Pairwise uq):(gT E x).Pairwise uq:=(bF.pairwise_iff (fun {a b} c=>VZ c)).2 h
theorem Nl(d:E[k]? = some x)(h:E.Pairwise uq):(x::vh E k).Pairwise uq:=((pI d).pairwise_iff (fun {a b} c=>VZ c)).1 h
def lR(E:List Ent):Prop:=E.Pairwise (fun x y=>x.f.name≠y.f.name)
theorem Nm(h:yq (E.map Ent.f)):lR E:=(List.pairwise_map (f:=Ent.f) (R:=fun x y=>x.name≠y.name)).1 (Je h)
theorem Nn(d:E[k]? = some x)(h:lR E):lR (x::vh E k):=((pI d).pairwise_iff (fun {a b} c e=>c e.symm)).1 h
theorem QK(a:E[k]? = some x)(h:lR E):∀y∈vh E k,y.f.name≠x.f.name:=fun y b e=>(List.pairwise_cons.1 (Nn a h)).1 y b e.symm
theorem VK(a:E[k]? = some x){y:Ent}(c:y∈E)(b:y.f.name≠x.f.name):y∈vh E k:=by
 rcases qL.1 ((pI a).mem_iff.1 c) with rfl|h
 ·exact absurd rfl b
 ·exact h
theorem Np(h:lR E):∀y∈gA E n,y.f.name≠n:=by
 unfold gA;split
 ·rename_i b;obtain⟨f,a,e⟩:=dh (l:=E.map Ent.f) (n:=n) (by rw[qj];exact b);rw[qz]at a;cases c:E[jW (E.map Ent.f) n]? with
  | none=>rw[c]at a;cases a
  | some x =>
    rw[c]at a;obtain rfl:x.f=f:=(by simpa using a);intro y d;rw[<-e];exact QK c h y d
 ·rename_i b;intro y d;exact nZ (l:=E.map Ent.f) (by rw[qj];exact b) y.f (qN.2 ⟨y,d,rfl⟩)
theorem Nr{y:Ent}(c:y∈E)(i:y.f.name≠n):y∈gA E n:=by
 unfold gA;split
 ·rename_i d;obtain⟨f,a,e⟩:=dh (l:=E.map Ent.f) (n:=n) (by rw[qj];exact d);rw[qz]at a;cases b:E[jW (E.map Ent.f) n]? with
  | none=>rw[b]at a;cases a
  | some x =>
    rw[b]at a;obtain rfl:x.f=f:=(by simpa using a);exact VK b c (by rw[e];exact i)
 ·exact c
theorem Ns{l:List zi}(h:yq l)(n:Tw):yq (bV l n):=by
 unfold bV;split
 ·exact tL h _
 ·exact h
end
section
variable {w w1 w':World}{base g mb:Nat}{vF:Value}{E E':List Ent}{K G:List Nat}{D D':zr}
theorem PAt.nodup(h:PAt w base g mb vF E K D):((E.map Ent.nb).map (fun x=>x.1.data.toList)).Nodup:=by rw[QZ h];exact Ja h.qo
theorem PAt.xi(h:PAt w base g mb vF E K D):lR E:=Nm (by rw[<-h.xZ];exact h.qo)
theorem PAt.xj(h:PAt w base g mb vF E K D):E.length=D.l.length:=by rw[h.xZ,qj]
theorem Nt: ∀y∈jm g mb E' K,(∀z∈E',z∈E)->y∈jm g mb E K:=by
 intro y b a;rcases km.1 b with e|e|e|⟨z,c,e⟩
 ·exact km.2 (qX e)
 ·exact km.2 (qY (qX e))
 ·exact bw e
 ·exact gW (a z c) e
end
section
variable {w w1 w':World}{base g mb:Nat}{vF:Value}{E E':List Ent}{K G:List Nat}{D D':zr}
theorem PAt.zX(h:PAt w base g mb vF E K D){x:Ent}(a:x∈E):x.f.name.size<=maxLen:=by
 have:=h.names x.f (by rw[h.xZ];exact qN.2 ⟨x,a,rfl⟩);unfold ky at this;simp only[Bool.and_eq_true,decide_eq_true_eq]at this;unfold maxLen;omega
theorem VV(h:PAt w base g mb vF E K D){k:Nat}{x:Ent}(c:E[k]? = some x):∃w',(Builtin.delete_ #[80,9] 0 #[.map (some mb),.string x.f.name]).run prog w = .ok (.tuple #[]) w'/\PAt w' base g mb vF (vh E k) K { D with l:=ku D.l k }/\ze [mb] w w':=by
 have q:=qO c
 obtain⟨w',o,j,d⟩:=h.map.drop (L':=(vh E k).map Ent.nb) (h.zX q) (fun y a=>by
  obtain⟨z,b,rfl⟩:=qN.1 a;exact⟨qN.2 ⟨z,cQ.subset b,rfl⟩,QK c h.xi z b⟩) (fun y a m=>by
  obtain⟨z,b,rfl⟩:=qN.1 a;exact qN.2 ⟨z,VK c b m,rfl⟩) 0
 refine⟨w',o,h.x9 (vh E k) _ (by rw[pH,<-h.xZ]) j d (fun y a=>h.xJ y (cQ.subset a)) (List.Pairwise.sublist cQ h.apart) (tL h.qo k) (fun f i=>h.names f (mu i)),d⟩
theorem Na(h:PAt w base g mb vF E K D)(o:vA D)(n:Tw)(F:n.size<=maxLen):Calls prog 125 #[ptr g,.string n] w (ks yz base g (jm g mb E K) w (err (jL D n).1) (jL D n).2):=by
 have A:=qQ h;cases a:D.down
 ·by_cases c:jW D.l n<D.l.length
  ·obtain⟨x,s,C,q⟩:=fM h c;have d:=qQ (lL h a s (by rw[q];exact F));rw[q]at d;rw[Cw a c];generalize jW D.l n=k at*;cases r:vV D
   ·have m:=qQ (nB h o r);simp only[Bool.false_eq_true,if_false];generalize vr D D.keep=U at*;clear h o s C q c a r;go_enter func125,ntmps125;go_wp2_with fail;refine d.out.mono ?_;rintro e w'⟨rfl,rfl⟩;go_wp2_with fail;refine m.out.mono ?_;rintro e T⟨E',rfl,f,i,j⟩;have H:=qQ f;have t:=qQ i;have u:=qQ j;clear f i j m;go_wp2;go_ret;exact lP H.out t.out u.out _
   ·have m:=qQ (nA h r);simp only[if_true];have L:=qQ s;have J:=qQ q;clear h o s C q c a r;go_enter func125,ntmps125;go_wp2_with fail;refine d.out.mono ?_;rintro e w'⟨rfl,rfl⟩;go_wp2_with fail;refine m.out.mono ?_;rintro e T⟨rfl,f,i⟩;obtain⟨V,Q,j,B⟩:=VV f L.out;rw[J.out]at Q;obtain⟨c0,c1,c2,M,N,O,P⟩:=f.cells;have u:=qQ j;have I:=qQ B;have t:=qQ i;clear f i j B m c0 c1 M N O P;go_wp2;go_ret;refine⟨_,rfl,u.out.at,fun y R=>qX (Nt y R (fun z S=>cQ.subset S)), ?_⟩;exact(t.out.more (fun b v=>qX (bw v))).trans I.out (fun b v=>qX (by rw[qE.1 v];exact pE))
  ·have d:=qQ (lM h a c F);rw[DQ a c];clear h o c a;go_enter func125,ntmps125;go_wp2_with fail;refine d.out.mono ?_;rintro e w'⟨rfl,rfl⟩;go_wp2;go_ret;exact uD A.out _
 ·have d:=qQ (lN h a n);rw[DX a];clear h o a;go_enter func125,ntmps125;go_wp2_with fail;refine d.out.mono ?_;rintro e w'⟨rfl,rfl⟩;go_wp2;go_ret;exact uD A.out _
end
section
variable {w w1 w':World}{base g mb:Nat}{vF:Value}{E E':List Ent}{K G:List Nat}{D D':zr}
def cg(w:World)(n:Tw):Ent:=⟨⟨n,ByteArray.empty,0⟩,w.heap.size,.slice none 0 0⟩
def pL(w:World):World:=w.alloc (.cells #[.slice none 0 0,.int .i64 0] 215)
theorem Ni(h:PAt w base g mb vF E K D)(n:Tw)(B:ky n=true)(A:n.size<=maxLen)(c:¬jW D.l n<D.l.length)(u:D.l.length<=400):
  ∃w',(Instr.mapUpdate 80 (.map (some mb)) (.string n) (ptr w.heap.size)).run prog (pL w) = .ok () w'/\PAt w' base g mb vF (gT E (cg w n)) K { D with l:=kH D.l ⟨n,ByteArray.empty,0⟩ }/\ze [mb] w w':=by
 have o:ze [] w (pL w):=(ze.refl [] w).alloc _;have i:=h.qa o (fun _ _=>by simp);have s:base<=w.heap.size:=by have:=h.gb;have:=h.qi.lt;omega
 have q:kG (pL w) base (cg w n):=⟨za.new w _ _,s,Lp _ _⟩
 have C:∀y∈E,y.f.name≠n:=fun y a=>nZ c y.f (by rw[h.xZ];exact qN.2 ⟨y,a,rfl⟩)
 have r:(cg w n::E).Pairwise uq:=List.pairwise_cons.2 ⟨fun y a=>⟨fun e=>by
  have:=(h.xJ y a).1.lt;have I:w.heap.size=y.b:=e;omega,fun b j=>by cases j⟩,h.apart⟩
 obtain⟨w',F,v,m⟩:=i.map.store i.nodup (by rw[qj,h.xj];exact u) A (b:=w.heap.size) (L':=(gT E (cg w n)).map Ent.nb) (qN.2 ⟨cg w n,bF.mem_iff.2 (by simp),rfl⟩)
  (fun y a=>by
   obtain⟨z,d,rfl⟩:=qN.1 a;rcases qL.1 (bF.mem_iff.1 d) with rfl|d
   ·exact qX rfl
   ·exact qY ⟨qN.2 ⟨z,d,rfl⟩,C z d⟩)
  (fun y a _=>by
   obtain⟨z,d,rfl⟩:=qN.1 a;exact qN.2 ⟨z,bF.mem_iff.2 (by simp[d]),rfl⟩)
 have t:(cg w n).f=⟨n,ByteArray.empty,0⟩:=rfl;refine⟨w',F,i.x9 (gT E (cg w n)) _ (by rw[VQ,t,<-h.xZ]) v m (fun y a=>?_) (VJ r) (Jt h.qo _ (fun y a=>nZ c y a)) (fun f c=>?_),(o.more (fun x H=>by cases H)).trans m (fun b j=>qX j)⟩
 ·rcases qL.1 (bF.mem_iff.1 a) with rfl|a
  ·exact q
  ·exact i.xJ y a
 ·rcases lJ c with c|rfl
  ·exact h.names f c
  ·exact B
theorem No{x:Ent}{z:Nat}(d:∀b∈x.blocks,z<=b):∀y∈jm g mb (gT E x) K,y∈jm g mb E K∨z<=y:=by
 intro y c;rcases km.1 c with e|e|e|⟨u,a,e⟩
 ·exact qX (km.2 (qX e))
 ·exact qX (km.2 (qY (qX e)))
 ·exact qX (bw e)
 ·rcases qL.1 (bF.mem_iff.1 a) with rfl|a
  ·exact qY (d y e)
  ·exact qX (gW a e)
theorem Nw(h:PAt w base g mb vF E K D)(j:vA D)(n:Tw)(I:n.size<=maxLen):Calls prog 201 #[ptr g,.string n] w (ks yz base g (jm g mb E K) w (err (jB D n).1) (jB D n).2):=by
 have F:=qQ h;have i:=qQ (nG h);unfold bo at i;cases a:D.down
 case true =>
  rw[DZ a];rw[a]at i;clear h j a;go_enter func201,ntmps201;go_wp2_with fail;refine i.out.mono ?_;rintro e w'⟨rfl,rfl⟩;go_wp2;go_ret;exact uD F.out _
 rw[a]at i;have m:=qQ (Kf n w I);cases c:ky n
 case false =>
  rw[DJ a c];rw[c]at m;clear h j a c;go_enter func201,ntmps201;go_wp2_with fail;refine i.out.mono ?_;rintro e w'⟨rfl,rfl⟩;go_wp2_with fail;refine m.out.mono ?_;rintro e w'⟨rfl,rfl⟩;go_wp2;go_ret;exact uD F.out _
 rw[c]at m;obtain⟨c0,c1,c2,o,r,s,t⟩:=h.cells;by_cases d:jW D.l n<D.l.length
 case pos =>
  obtain⟨x,J,N,S⟩:=fM h d;rw[DK a c d];have N:=h.map.look I (b:=x.b) (qN.2 ⟨x,qO J,by unfold Ent.nb;rw[S]⟩);clear h j a c d J S c0 c1 o r s t;generalize x.b=xb at*;go_enter func201,ntmps201;go_wp2_with fail;refine i.out.mono ?_;rintro e w'⟨rfl,rfl⟩;go_wp2_with fail;refine m.out.mono ?_;rintro e w'⟨rfl,rfl⟩;go_wp2;go_ret;exact uD F.out _
 have N:=h.map.xw I (fun y hy=>by
  obtain⟨x,J,rfl⟩:=qN.1 hy;exact nZ d x.f (by rw[h.xZ];exact qN.2 ⟨x,J,rfl⟩))
 have R:=fun ts=>h.map.len h.nodup ts
 rw[qj,h.xj]at R;have Z:=j.many;by_cases O:400<=D.l.length
 case pos =>
  rw[DV a c d O];have q:decide ((400:Int)<=(D.l.length:Int))=true:=qW (by omega);clear h j a c d c0 c1 o r s t;go_enter func201,ntmps201;go_wp2_with fail;refine i.out.mono ?_;rintro e w'⟨rfl,rfl⟩;go_wp2_with fail;refine m.out.mono ?_;rintro e w'⟨rfl,rfl⟩;go_wp2;go_ret;exact uD F.out _
 rw[DY a c d O];have q:decide ((400:Int)<=(D.l.length:Int))=false:=qG (by omega);cases H:vV D
 ·have C:=qQ (nB h j H);simp only[Bool.false_eq_true,if_false];generalize vr D D.keep=D2 at*;clear h j a H c d c0 c1 o r s t;go_enter func201,ntmps201;go_wp2_with fail;refine i.out.mono ?_;rintro e w'⟨rfl,rfl⟩;go_wp2_with fail;refine m.out.mono ?_;rintro e w'⟨rfl,rfl⟩;go_wp2_with fail;refine C.out.mono ?_;rintro e P⟨E',rfl,u,v,A⟩;have T:=qQ u;have L:=qQ v;have M:=qQ A;clear u v A C;go_wp2;go_ret;exact lP T.out L.out M.out _
 ·have C:=qQ (nA h H);simp only[if_true];have Y:=qQ c;have V:=qQ d;have X:=qQ Z;clear h j a H c d c0 c1 o r s t O;go_enter func201,ntmps201;go_wp2_with fail;refine i.out.mono ?_;rintro e w'⟨rfl,rfl⟩;go_wp2_with fail;refine m.out.mono ?_;rintro e w'⟨rfl,rfl⟩;go_wp2_with fail;refine C.out.mono ?_;rintro e P⟨rfl,u,v⟩;obtain⟨w3,aa,A,Q⟩:=Ni u n Y.out I V.out X.out;obtain⟨c0,c1,ab,o,r,s,t⟩:=u.cells;have M:=qQ A;have U:=qQ Q;have L:=qQ v
  have W:=qQ (No (g:=g) (mb:=mb) (E:=E) (K:=K) (x:=cg P n) (z:=w.heap.size) (fun b B=>by
   have e:b=P.heap.size:=(by simpa[cg,Ent.blocks,Value.ownBlock] using B);rw[e];exact v.size))
  unfold pL at aa;clear u v A Q C c0 c1 o r s t c2 N R;go_wp2;go_ret;refine⟨_,rfl,M.out.at,W.out, ?_⟩;exact(L.out.more (fun b B=>qX (bw B))).trans U.out (fun b B=>qX (by rw[qE.1 B];exact pE))
end
section
variable {w w1 w':World}{base g mb:Nat}{vF:Value}{E E':List Ent}{K G:List Nat}{D D':zr}
def fN(x:Ent)(n:Tw):Ent:=⟨{ x.f with name:=n },x.b,x.v⟩
theorem OQ{x:Ent}{n:Tw}(h:kG w base x):kG w base (fN x n):=⟨h.1,h.2.1,h.2.2⟩
def pM(l:List zi)(k:Nat)(n a:Tw):List zi:=if n=a then l else cw l k a
theorem OX(h:PAt w base g mb vF E K D){k:Nat}{x:Ent}(c:E[k]? = some x)(A:D.l.length<=400)(i:PAt w1 base g mb vF (vh E k) K { D with l:=ku D.l k })(u:ze [mb] w w1):
  ∃w',(Instr.mapUpdate 80 (.map (some mb)) (.string x.f.name) (ptr x.b)).run prog w1 = .ok () w'/\PAt w' base g mb vF E K D/\ze [mb] w1 w':=by
 have m:=qO c
 obtain⟨w',t,r,j⟩:=i.map.store i.nodup (by
  have v:(vh E k).length<=E.length:=cQ.length_le;rw[qj];have:=h.xj;omega) (h.zX m) (b:=x.b) (L':=E.map Ent.nb) (qN.2 ⟨x,m,rfl⟩)
  (fun y d=>by
   obtain⟨z,a,rfl⟩:=qN.1 d;rcases qL.1 ((pI c).mem_iff.1 a) with rfl|a
   ·exact qX rfl
   ·exact qY ⟨qN.2 ⟨z,a,rfl⟩,QK c h.xi z a⟩)
  (fun y d _=>by
   obtain⟨z,a,rfl⟩:=qN.1 d;exact qN.2 ⟨z,cQ.subset a,rfl⟩)
 have o:ze [mb] w w':=u.trans j (fun b q=>qX q);have s:=h.x9 E D.l h.xZ r o h.xJ h.apart h.qo h.names;exact⟨w',t,s,j⟩
theorem OZ(h:PAt w base g mb vF E K D){k:Nat}{x:Ent}(o:E[k]? = some x){a:Tw}(F:ky a=true)(J:a.size<=maxLen)(R:x.f.name≠a)(Q:D.l.length<=400)(j:PAt w1 base g mb vF (vh E k) K { D with l:=ku D.l k })(I:ze [mb] w w1):
  ∃w',(Instr.mapUpdate 80 (.map (some mb)) (.string a) (ptr x.b)).run prog w1 = .ok () w'/\PAt w' base g mb vF (gT (gA (vh E k) a) (fN x a)) K { D with l:=cw D.l k a }/\ze [mb] w1 w':=by
 have L:=qO o;have q:=Np (n:=a) j.xi
 obtain⟨w',H,C,r⟩:=j.map.store j.nodup (by
  have P:(vh E k).length<=E.length:=cQ.length_le;rw[qj];have:=h.xj;omega) J (b:=x.b) (L':=(gT (gA (vh E k) a) (fN x a)).map Ent.nb) (qN.2 ⟨fN x a,bF.mem_iff.2 (by simp),rfl⟩)
  (fun y c=>by
   obtain⟨z,d,rfl⟩:=qN.1 c;rcases qL.1 (bF.mem_iff.1 d) with rfl|d
   ·exact qX rfl
   ·exact qY ⟨qN.2 ⟨z,nD.subset d,rfl⟩,q z d⟩)
  (fun y c M=>by
   obtain⟨z,d,rfl⟩:=qN.1 c;exact qN.2 ⟨z,bF.mem_iff.2 (by simp[Nr d M]),rfl⟩)
 have m:D.l[k]? = some x.f:=by rw[h.xZ,qz,o];rfl
 have A:(fN x a).f={ x.f with name:=a }:=rfl
 have t:(fN x a::gA (vh E k) a).Pairwise uq:=by
  obtain⟨N,O⟩:=List.pairwise_cons.1 (Nl o h.apart);exact List.pairwise_cons.2 ⟨fun y c=>N y (nD.subset c),List.Pairwise.sublist nD O⟩
 have B:cw D.l k a=(gT (gA (vh E k) a) (fN x a)).map Ent.f:=by
  rw[oP m,VQ,VX,pH,A,<-h.xZ]
 have s:ze [mb] w w':=I.trans r (fun b u=>qX u);refine⟨w',H,h.x9 _ _ B C s (fun y c=>?_) (VJ t) ?_ (fun f i=>?_),r⟩
 ·rcases qL.1 (bF.mem_iff.1 c) with rfl|c
  ·exact OQ (h.xJ x L)
  ·exact h.xJ y (cQ.subset (nD.subset c))
 ·rw[oP m];refine Jt (Ns (tL h.qo k) a) _ (fun f i=>?_);have v:f∈(gA (vh E k) a).map Ent.f:=by rw[VX,pH,<-h.xZ];exact i
  obtain⟨z,d,rfl⟩:=qN.1 v;exact q z d
 ·rw[oP m]at i;rcases lJ i with i|rfl
  ·exact h.names f (mu (Zq i))
  ·exact F
theorem OJ(h:PAt w base g mb vF E K D)(r:vA D)(n c:Tw)(Y:n.size<=maxLen)(Z:c.size<=maxLen):Calls prog 245 #[ptr g,.string n,.string c] w (ks yz base g (jm g mb E K) w (err (vY D n c).1) (vY D n c).2):=by
 have I:=qQ h;cases a:D.down
 case true =>
  have m:=qQ (lN h a n);rw[DU a];clear h r a;go_enter func245,ntmps245;go_wp2_with fail;refine m.out.mono ?_;rintro e w'⟨rfl,rfl⟩;go_wp2;go_ret;exact uD I.out _
 by_cases d:jW D.l n<D.l.length
 case neg =>
  have m:=qQ (lM h a d Y);rw[DG a d];clear h r d a;go_enter func245,ntmps245;go_wp2_with fail;refine m.out.mono ?_;rintro e w'⟨rfl,rfl⟩;go_wp2;go_ret;exact uD I.out _
 obtain⟨x,s,M,t⟩:=fM h d;have m:=qQ (lL h a s (by rw[t];exact Y));rw[t]at m;have A:=qQ (Kf c w Z);cases j:ky c
 case false =>
  rw[DW a d j];rw[j]at A;clear h r a j d s M t;go_enter func245,ntmps245;go_wp2_with fail;refine m.out.mono ?_;rintro e w'⟨rfl,rfl⟩;go_wp2_with fail;refine A.out.mono ?_;rintro e w'⟨rfl,rfl⟩;go_wp2;go_ret;exact uD I.out _
 rw[j]at A;rw[DA a d j,show(if n=c then D.l else cw D.l (jW D.l n) c)=pM D.l (jW D.l n) n c from rfl];generalize jW D.l n=k at*;cases C:vV D
 ·have z:=qQ (nB h r C);simp only[Bool.false_eq_true,if_false];generalize vr D D.keep=D2 at*;clear h r s M t d a C j;go_enter func245,ntmps245;go_wp2_with fail;refine m.out.mono ?_;rintro e w'⟨rfl,rfl⟩;go_wp2_with fail;refine A.out.mono ?_;rintro e w'⟨rfl,rfl⟩;go_wp2_with fail;refine z.out.mono ?_;rintro e w2⟨E',rfl,i,v,o⟩;have H1:=qQ i;have H2:=qQ v;have H3:=qQ o;clear i v o z;go_wp2;go_ret;exact lP H1.out H2.out H3.out _
 ·have z:=qQ (nA h C);simp only[if_true];have L:=qQ s;have J:=qQ t;have ab:=qQ j;have S:=qQ r.many;have X:∀b∈x.blocks,b∈jm g mb E K:=fun b q=>gW (qO s) q
  have aa:=qQ X;clear h r s M t d a C j X;go_enter func245,ntmps245;go_wp2_with fail;refine m.out.mono ?_;rintro e w'⟨rfl,rfl⟩;go_wp2_with fail;refine A.out.mono ?_;rintro e w'⟨rfl,rfl⟩;go_wp2_with fail;refine z.out.mono ?_;rintro e w2⟨rfl,i,v⟩;obtain⟨w3,hr,o,B⟩:=VV i L.out
  have ac:∃f H,(Instr.mapUpdate 80 (.map (some mb)) (.string c) (ptr x.b)).run prog w3 = .ok () f/\PAt f base g mb vF H K { ug D with l:=pM D.l k n c }/\ze [mb] w3 f/\(∀y∈jm g mb H K,y∈jm g mb E K):=by
   by_cases F:n=c
   ·obtain⟨f,P,Q,R⟩:=OX i L.out S.out o B;refine⟨f,E, ?_,by unfold pM;rw[qK F];exact Q,R,fun _ h=>h⟩;rw[<-F,<-J.out];exact P
   ·obtain⟨f,P,Q,R⟩:=OZ i L.out ab.out Z (by rw[J.out];exact F) S.out o B;refine⟨f,_,P,by unfold pM;rw[qJ F];exact Q,R,fun y O=>?_⟩;rcases km.1 O with e|e|e|⟨u,N,e⟩
    ·exact km.2 (qX e)
    ·exact km.2 (qY (qX e))
    ·exact bw e
    ·rcases qL.1 (bF.mem_iff.1 N) with rfl|N
     ·exact aa.out y e
     ·exact gW (cQ.subset (nD.subset N)) e
  obtain⟨f,H,ad,T,U,V⟩:=ac;rw[J.out]at hr;obtain⟨c0,c1,c2,c3,c4,c5,c6⟩:=i.cells;obtain⟨e0,e1,e2,e3,e4,e5,e6⟩:=o.cells;have W:ze (jm g mb E K) w f:=((v.more (fun b q=>qX (bw q))).trans B (fun b q=>qX (by rw[qE.1 q];exact pE))).trans U (fun b q=>qX (by rw[qE.1 q];exact pE));have H5:=qQ T;have H7:=qQ V;have HT:=qQ W;clear i v o B T U V W z c0 c1 c3 c4 c5 c6 e0 e1 e3 e4 e5 e6;go_wp2;go_ret;exact⟨_,rfl,H5.out.at,fun y O=>qX (H7.out y O),HT.out⟩
end
def pN(w:World)(c:Nat):World:=(w.alloc (.map #[] 0)).alloc (.cells #[ptr (w.heap.size+1),.int .i64 (c:Nat),.map (some w.heap.size),.bool true,.int .i64 0,.int .i64 0,.pointer none] 83)
theorem OV(base c:Nat)(w:World)(d:base<=w.heap.size):PAt (pN w c) base (w.heap.size+1) w.heap.size (.pointer none) [] [] (yf c):=by
 have j:(w.alloc (.map #[] 0)).heap.size=w.heap.size+1:=by simp
 have f:=ka.made w (.map #[] 0) rfl
 have b:za (pN w c) (w.heap.size+1) 83 #[ptr (w.heap.size+1),.int .i64 (c:Nat),.map (some w.heap.size),.bool true,.int .i64 0,.int .i64 0,.pointer none]:=by
  have:=za.new (w.alloc (.map #[] 0)) 83 #[ptr (w.heap.size+1),.int .i64 (c:Nat),.map (some w.heap.size),.bool true,.int .i64 0,.int .i64 0,.pointer none];rw[j]at this;exact this
 have i:ka (pN w c) w.heap.size []:=f.qa ((ze.refl [] (w.alloc (.map #[] 0))).alloc _) (by simp);exact⟨b,by omega,d,rfl,i,fun x a=>(by cases a),List.Pairwise.nil,List.Pairwise.nil,fun x a=>(by cases a),qX ⟨rfl,rfl,rfl⟩⟩
theorem OY(base c:Nat)(w:World)(a:base<=w.heap.size)(f:c<=1048576):Calls prog 24 #[.int .i64 (c:Nat)] w (Qf yz base w c):=by
 have j:decide ((c:Int)<0)=false:=qG (by omega);have l:decide ((1048576:Int)<(c:Int))=false:=qG (by omega);have m:=@run_makeMap prog;have b:=qQ (OV base c w a);have o:(w.alloc (.map #[] 0)).heap.size=w.heap.size+1:=by simp
 clear a f;go_enter func24,ntmps24;go_wp2;go_ret2;have d:ze [] w (pN w c):=((ze.refl [] w).alloc _).alloc _;refine⟨w.heap.size+1,_,rfl,b.out.at,fun x i=>?_,d⟩;rcases km.1 i with rfl|rfl|e|⟨_,e,_⟩
 ·omega
 ·omega
 ·cases e
 ·cases e
end
section
open Go.RowKit
theorem OU{w:World}{base g mb:Nat}{vF:Value}{E:List Ent}{K:List Nat}{D:zr}(h:PAt w base g mb vF E K D){v:Value}{f:FuncId}{a:Array Value}(b:Calls prog f a w fun e w'=>e = .returned v/\w=w'):
  Calls prog f a w (ks yz base g (jm g mb E K) w v D):=b.mono (by
 rintro e w'⟨rfl,rfl⟩;exact uD h _)
theorem api: jY yz where
 qa:=by
  rintro w w' base g F G D⟨mb,vF,E,K,h,rfl⟩ J C;exact⟨mb,vF,E,K,h.qa J C,rfl⟩
 low:=by
  rintro w base g F D⟨mb,vF,E,K,h,rfl⟩;exact h.low
 zf:=fun base c w l o=>OY base c w l o
 create:=by
  rintro w base g F D n⟨mb,vF,E,K,h,rfl⟩ d f;exact Nw h d n f
 append:=by
  rintro w base g F D n s⟨mb,vF,E,K,h,rfl⟩ d I f;exact Nd h d n s f I
 read:=by
  rintro w base g F D n a k⟨mb,vF,E,K,h,rfl⟩ d o B H f;exact Nh h d o n a k f B H
 sync:=by
  rintro w base g F D n⟨mb,vF,E,K,h,rfl⟩ d f;exact Nj h d n f
 rename:=by
  rintro w base g F D n m⟨mb,vF,E,K,h,rfl⟩ d q f;exact OJ h d n m f q
 delete:=by
  rintro w base g F D n⟨mb,vF,E,K,h,rfl⟩ d f;exact Na h d n f
 names:=by
  rintro w base g F D⟨mb,vF,E,K,h,rfl⟩ d;refine(Kp h d.many).mono ?_;rintro e w'⟨v,t,u,r,i⟩;have y:=h.qa i (fun _ _=>by simp);exact⟨_,v,t,u,fun b l=>⟨r b l,fun q=>by have:=r b l;have:=(h.low b q).2;omega⟩,y.at,fun x j=>qX j,i.more (fun x j=>by cases j)⟩
 free:=by
  rintro w base g F D⟨mb,vF,E,K,h,rfl⟩ d;refine(Ko h d).mono ?_;rintro e w'⟨rfl,i⟩;exact dR (h.qa i (fun _ _=>by simp)) (i.more (fun x j=>by cases j)) _
 reads:=by
  rintro w base g F D⟨mb,vF,E,K,h,rfl⟩ d;exact OU h (NI h)
 zl:=by
  rintro w base g F D v keep⟨mb,vF,E,K,h,rfl⟩ d z A _;exact NO v keep h d z A
 zg:=by
  rintro w base g F D⟨mb,vF,E,K,h,rfl⟩;exact Ke h
 zW:=by
  rintro w base g F D⟨mb,vF,E,K,h,rfl⟩;exact NL h
 xo:=by
  rintro w base g F D n⟨mb,vF,E,K,h,rfl⟩ d f;exact NN h d n f
 qo:=by
  rintro w base g F D⟨mb,vF,E,K,h,rfl⟩;exact⟨h.qo,h.names⟩
end
end Go.Proofs.YthejglbnkmimjaaGreat
