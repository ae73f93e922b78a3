import Derived.Test.YthejglbnkmimjaaGreatPp06
set_option linter.unusedVariables false
set_option maxRecDepth 100000
set_option maxHeartbeats 9000000
namespace Go.Proofs.YthejglbnkmimjaaGreat
open Proofs.Tryz
section
open Go.RowKit Go.Shelf
structure Has(w:World)(p:Value)(l:List jI):Prop where
 laid:∃v,kB w v l/\∀W,Below w.1.size w W->Calls prog 110 #[p] W fun e w'=>e=.returned v/\W=w'
 xI:kY l
 ok:∀x∈l,ks x
theorem vE.has{w:World}{base g:Nat}{F:List Nat}{l:List jI}(h:vE w base g F l):Has w (mtp g) l:=by
 obtain⟨A,c,c0,c1,-,f,-⟩:=h.shape;obtain⟨v,i,j,m,n,o,b,d⟩:=h;have q:∀ {p:Addr} {u:Value} {W:World},w.cell? p=some u->Below w.1.size w W->W.cell? p=some u:=fun {p u W} k a=>(a.cell (p:=p) (World.block_lt_of_cell? w _ k)).trans k
 exact⟨⟨_,ju.xH f,fun W a=>Uw (q c0 a) (q c1 a)⟩,b,d⟩
theorem Rm{w:World}{p:Value}{l:List jI}(h:Has w p l)(r:l.length<=500000)(k:Nat)(a b:Int):
  Calls prog 106 #[p,.int .u64 (k:Nat),a,b] w (dX w (vD l k a b)):=by
 obtain⟨⟨v,j,d⟩,g,f⟩:=h;have m:=qQ (d w (qG _ _));have n:=qQ (U7 v l k a b w j r f g);clear d j g f;generalize vD l k a b=R at*;go_enter func106,ntmps106;go_wp2_with fail;refine X5 m.out ?_;go_wp2_with fail;refine n.out.mono ?_;rintro e w'⟨A,c,rfl,i,q⟩;have o:=qQ i;clear i;go_wp2;go_ret;exact⟨A,c,rfl,o.out,q⟩
theorem Rn{w:World}{p:Value}{l:List jI}(h:Has w p l)(g:l.length<=500000):
  Calls prog 65 #[p] w (dX w l):=by
 obtain⟨⟨v,j,f⟩,r,q⟩:=h;have k:=qQ (f w (qG _ _));have a:=qQ (U6 v l w j g);obtain⟨n,b⟩:∃n,n=l.length:=⟨_,rfl⟩
 have d:=qQ b;unfold dX at a;rw[<-b]at a;clear f j r q g b;go_enter func65,ntmps65;go_wp2_with fail;refine X5 k.out ?_;go_wp2_with fail;refine a.out.mono ?_;rintro e w'⟨A,c,rfl,i,o⟩;have m:=qQ i;clear i;go_wp2;go_ret;exact⟨A,c,by rw[<-d.out];rfl,by rw[<-d.out];exact m.out,o⟩
def GQ(w:World)(x:jI)(b:Bool)(e:Ending)(w':World):Prop:=e=.returned (.tuple #[ki x,b])/\Below w.1.size w w'
theorem Rp{w:World}{p:Value}{l:List jI}(h:Has w p l)(z:l.length<=500000)(k:Nat)(n:Int):
  Calls prog 138 #[p,.int .u64 (k:Nat),n] w (GQ w (yZ l k n) (yB l k n)):=by
 obtain⟨⟨v,t,m⟩,r,q⟩:=h;have d:vL (w.alloc (.cells #[.int .u64 ((0:Nat):Int),.int .i64 0,.int .i64 0] 117)) w.1.size 0 0 0:=jN.new _ _ _;have a:=(qG w.1.size w).alloc (qK _) (.cells #[.int .u64 ((0:Nat):Int),.int .i64 0,.int .i64 0] 117);obtain⟨b,g⟩:∃b,w.alloc (.cells #[.int .u64 ((0:Nat):Int),.int .i64 0,.int .i64 0] 117)=b:=⟨_,rfl⟩
 rw[g]at d a;have N:w.alloc (.cells #[.int .u64 0,.int .i64 0,.int .i64 0] 117)=b:=g;clear g;have i:=qQ (m b a);have j:=qQ (Ui v l k n b (t.below a (qK _)) (by omega) q r);clear m t r q z;generalize yZ l k n=x at*;generalize yB l k n=o at*;obtain⟨G,I,H⟩:=x;go_enter func138,ntmps138;go_wp2_with fail;refine X5 i.out ?_;go_wp2_with fail;refine j.out.mono ?_;rintro e F⟨rfl,f⟩;have u:vL F w.1.size 0 0 0:=jN.below d f;have y:=bj a f;clear d a f j i;obtain⟨A,B,C,J,K,M⟩:=u.facts;go_wp2;exact bodyPost_ret (v:=.tuple #[ki ⟨G,I,H⟩,o]) (by simp[results,Tryz.results138,go_sem,A,B,C]) rfl ⟨rfl,mU y (qK _) _ _ _⟩
end
section
open Go.ChangeShapes Go.WideShapes Go.ChangeAt Go.RowKit Go.Deep
structure ky where
 v:Value
 l:List jI
abbrev els(L:List ky):List (List jI):=L.map ky.l
abbrev dj(L:List ky):List Value:=L.map ky.v
def dy(w:World)(L:List ky):Prop:=∀x∈L,kB w x.v x.l
def du(w:World)(v:Value)(L:List ky):Prop :=
 (L=[]/\∃a c,v=.slice a 0 c)∨∃b off cap,v=.slice (some ⟨b,off,none⟩) L.length cap/\L.length<=cap/\cap<=maxLen/\b<w.1.size/\∀i x,L[i]? = some x->w.cell? ⟨b,off+i,none⟩=some x.v
def QL(w:World)(v:Value)(L:List ky):Prop:=du w v L/\dy w L
theorem du.below{w w':World}{v:Value}{L:List ky}{B:Nat}(h:du w v L)(a:Below B w w')(f:w.1.size<=B):du w' v L:=by
 rcases h with h|⟨b,off,cap,l,j,k,d,g⟩
 ·exact qX h
 ·exact qY ⟨b,off,cap,l,j,k,qS d a.size,fun i x m=>(a.cell (p:=⟨b,off+i,none⟩) (qS d f)).trans (g i x m)⟩
theorem du.form{w:World}{v:Value}{L:List ky}(h:du w v L):∃A off cap,v=.slice A L.length cap/\L.length<=maxLen /\
  ∀i x,L[i]? = some x->∃b,A=some ⟨b,off,none⟩/\b<w.1.size/\w.cell? ⟨b,off+i,none⟩=some x.v:=by
 rcases h with⟨rfl,a,c,rfl⟩|⟨b,off,cap,rfl,j,k,d,f⟩
 ·exact⟨a,0,c,rfl,qI _,fun i x h=>by simp at h⟩
 ·exact⟨some ⟨b,off,none⟩,off,cap,rfl,by omega,fun i x g=>⟨b,rfl,d,f i x g⟩⟩
theorem dy.one{w:World}{L:List ky}(h:dy w L):∀u∈dj L,u.oneCell'=true:=by
 intro u a;obtain⟨x,b,rfl⟩:=qP.1 a;obtain⟨A,off,cap,e,-,-⟩:=(h x b).form;rw[e];rfl
abbrev kC(w:World)(base:Nat)(v:Value)(L:List ky):Prop:=w.ownsRow base 112 1 v L.length (dj L)
theorem kC.nil(w:World)(base:Nat):kC w base (.slice none 0 0) []:=World.ownsRow_nil _ _ _ _
theorem kC.at_{w:World}{base:Nat}{v:Value}{L:List ky}(h:kC w base v L):du w v L:=by
 have b:=h;rcases h.2 with⟨a,f⟩|⟨g,cap,m,a,n,j,l,k,p,q⟩
 ·exact qX ⟨xK.1 f,none,0,a⟩
 ·refine qY ⟨g,0,cap,a,l,k,(qn.1 j).1,fun i x d=>?_⟩;have o:i<L.length:=(qO.1 d).1;rw[a]at b;rw[qe];refine(b.cellAt i (by omega)).trans ?_;show(L.map ky.v)[i]? = _;rw[qv,d];rfl
theorem kC.xH{w:World}{base:Nat}{v:Value}{L:List ky}(h:kC w base v L)(a:dy w L):QL w v L:=⟨h.at_,a⟩
theorem kC.below{w w':World}{base B:Nat}{v:Value}{L:List ky}(h:kC w base v L)(i:Below B w w')(f:w.1.size<=B):kC w' base v L:=by
 refine⟨h.1, ?_⟩;rcases h.2 with d|⟨g,cap,b,l,j,a,r⟩
 ·exact qX d
 ·obtain⟨k,_⟩:=qn.1 a;exact qY ⟨g,cap,b,l,j,(i.block g (qS k f)).trans a,r⟩
theorem kC.some_{w:World}{base n c:Nat}{A:Option Addr}{L:List ky}(h:kC w base (.slice A n c) L)(j:0<L.length):∃g,A=some ⟨g,0,none⟩/\base<=g/\g<w.1.size/\n=L.length:=by
 rcases h.2 with⟨a,i⟩|⟨g,cap,f,a,b,d,_⟩
 ·omega
 ·obtain⟨rfl,rfl,-⟩:=Value.slice.inj a;exact⟨g,rfl,b,(qn.1 d).1,rfl⟩
theorem kC.cell{w:World}{base g n c i:Nat}{L:List ky}{x:ky}(h:kC w base (.slice (some ⟨g,0,none⟩) n c) L)(b:n=L.length)(a:L[i]? = some x):w.cell? ⟨g,i,none⟩=some x.v/\w.frozen? ⟨g,i,none⟩=false:=by
 subst b;have d:i<L.length:=(qO.1 a).1;refine⟨(h.cellAt i (by omega)).trans ?_,h.frozenAt i⟩;show(L.map ky.v)[i]? = _;rw[qv,a];rfl
theorem kC.put{w:World}{base g n c i:Nat}{L:List ky}(h:kC w base (.slice (some ⟨g,0,none⟩) n c) L)(b:n=L.length)(x:ky):kC (w.setCell ⟨g,i,none⟩ x.v) base (.slice (some ⟨g,0,none⟩) n c) (L.set i x):=by
 subst b;have a:=(h.stored i x.v).1;unfold kC dj;rw[List.length_set,List.map_set];exact a
theorem Rr: (prog.info? 112).map (fun i=>(i.zero,i.size,i.bytes))=some (some (.slice none 0 0),1,24):=by kernel_rfl
theorem du.src{w:World}{v:Value}{L:List ky}(h:du w v L):fX w 1 v L.length (dj L):=by
 refine⟨by unfold dj;rw[qq,Nat.mul_one], ?_⟩;rcases h with⟨rfl,a,c,rfl⟩|⟨b,off,cap,rfl,k,l,m,g⟩
 ·cases a with
  | none=>exact qX ⟨c,rfl,rfl⟩
  | some a=>exact qY ⟨a,c,rfl,fun j u d=>by cases d⟩
 ·refine qY ⟨⟨b,off,none⟩,cap,rfl,fun j u d=>?_⟩;unfold dj at d;rw[qv]at d;obtain⟨x,i,rfl⟩:=xG.1 d;have f:(⟨b,off,none⟩:Addr).add j=⟨b,off+j,none⟩:=by unfold Addr.add;split<;>simp_all
  rw[f];exact g j x i
theorem Rs(w:World)(x:ky):du (w.alloc (.cells #[x.v] 112)) (.slice (some ⟨w.1.size,0,none⟩) 1 1) [x]:=by
 refine qY ⟨w.1.size,0,1,rfl,qK _,by unfold maxLen;omega,by simp,fun i y a=>?_⟩
 match i,a with
 | 0,a =>
   obtain rfl:x=y:=(by simpa using a);simp
theorem GX{w:World}{base:Nat}{a b:Value}{L M:List ky}(n:kC w base a L)(o:du w b M)(k:∀u∈dj M,u.oneCell'=true)(v:L.length+M.length<=1000000)(l:base<=w.1.size)(f:TypeId):
  ∃A c w',(Builtin.append_ #[159,159] f #[a,b]).run prog w=.ok (.slice A (L.length+M.length) c) w'/\kC w' base (.slice A (L.length+M.length) c) (L++M)/\w.grownBy w' a.ownBlock/\((Value.slice A (L.length+M.length) c).ownBlock=a.ownBlock∨(Value.slice A (L.length+M.length) c).ownBlock=some w.1.size):=by
 obtain⟨t,m,p,q,r⟩:=info_parts Rr;obtain⟨y,w',g,d,i,j⟩:=fg (P:=prog) w base 159 112 t _ 1 24 f Tryz.underlying159 m p q r rfl (by decide) a L.length (dj L) n b M.length (dj M) o.src k (by unfold maxLen;omega) (by omega) l;obtain⟨A,c,rfl,-,-,-⟩:=vl d;refine⟨A,c,w',g, ?_,i,j⟩;unfold kC dj;rw[List.map_append,qL];exact d
theorem JA: (112:TypeId)≠117:=by decide
theorem kC.grown{w w':World}{base base':Nat}{u v:Value}{L:List ky}{l:List jI}(h:kC w base v L)(i:ju w base' u l)(d:w.grownBy w' u.ownBlock):kC w' base v L :=
 cQ h (F:=u.ownBlock.toList) (jP.grown (jP.refl _ w) d (fun k f=>qX (by rw[f];simp))) (fun b a g=>dF i h JA.symm b a (by simpa using g))
theorem ju.zc{w w':World}{base base':Nat}{u v:Value}{L:List ky}{l:List jI}(h:ju w base v l)(i:kC w base' u L)(d:w.grownBy w' u.ownBlock):ju w' base v l :=
 cQ h (F:=u.ownBlock.toList) (jP.grown (jP.refl _ w) d (fun k f=>qX (by rw[f];simp))) (fun b a g=>dF i h JA b a (by simpa using g))
theorem ju.xx{w:World}{base base' g n c i:Nat}{v x:Value}{L:List ky}{l:List jI}(h:ju w base v l)(b:kC w base' (.slice (some ⟨g,0,none⟩) n c) L):ju (w.setCell ⟨g,i,none⟩ x) base v l :=
 vz h (fun a=>dF b h JA g a rfl) x
theorem kC.alloc{w:World}{base:Nat}{v:Value}{L:List ky}(h:kC w base v L)(o:Obj):kC (w.alloc o) base v L:=kC.below h ((qG w.1.size w).alloc (qK _) o) (qK _)
def JB(w:World)(L:List ky)(e:Ending)(w':World):Prop:=∃A c,e=.returned (.slice A L.length c)/\kC w' w.1.size (.slice A L.length c) L/\Below w.1.size w w'
theorem GZ(A:Option Addr)(n c:Nat)(w:World):(binOp .eql 159 (.slice A n c) (.slice none 0 0)).run prog w=.ok (.bool A.isNone) w:=by
 have a:=run_equal_slice_nil (P:=prog) w 159 112 A n c Tryz.underlying159;simp only[binOp];simp[a]
theorem Rt(v:Value)(L:List ky)(w:World)(h:QL w v L)(p:L.length<=500000):Calls prog 170 #[v] w (JB w L):=by
 obtain⟨A,off,cap,rfl,-,-⟩:=h.1.form;cases A with
 | none =>
   have G:L=[]:=by
    rcases h.1 with⟨e,_⟩|⟨b,K,J,e,_⟩
    ·exact e
    ·cases e
   subst G;have H:=fun W=>GZ none 0 cap W
   clear h p;go_enter func170,ntmps170;go_wp2;go_ret;exact⟨none,0,rfl,kC.nil _ _,qG _ _⟩
 | some a =>
   have g:=(qG w.1.size w).alloc (qK _) (.cells #[] 112);have q:kC (w.alloc (.cells #[] 112)) w.1.size (.slice (some ⟨w.1.size,0,none⟩) 0 0) []:=World.ownsRow_made w #[] 0 (qK _) (qI _) rfl;have n:=h.1.below g (qK _);obtain⟨t,z,w',d,f,l,C⟩:=GX q n h.2.one (by simp;omega) (by simp) 159;have o:=g.trans (rq l (B:=w.1.size) (by simp) (fun k F=>by simp[Value.ownBlock]at F;omega));have y:=qQ o;rw[List.nil_append]at f;have r:([]:List ky).length+L.length=L.length:=(by simp);rw[r]at d f;have j:=qQ f;clear h p g q n f l C o r;unfold JB;obtain⟨m,i⟩:∃m,m=L.length:=⟨_,rfl⟩
   have I:=qQ i;rw[<-i]at d j ⊢;clear i;have u:=qQ d;have H:=fun W=>GZ (some a) m cap W
   clear d;go_enter func170,ntmps170;go_wp2_with (first|(at_builtin;refine yC rfl _ _ rfl rfl rfl u.out ?_)|fail);go_ret;exact⟨t,z,rfl,j.out,y.out⟩
end
section
open Go.RowKit Go.Shelf
theorem Re{l:List jI}{n:Nat}(h:l.length=n+1):l.getLast? = l[n]? := by rw[List.getLast?_eq_getElem?,h,Nat.add_sub_cancel]
theorem Ri(v:Value)(l:List jI)(x:jI)(w:World)(h:kB w v l)(G:l.length<=1000000):
  Calls prog 171 #[v,ki x] w (X3 (.bool (decide (l.getLast? = some x))) w):=by
 obtain⟨A,off,cap,rfl,-,o⟩:=h.form;obtain⟨a,f,d⟩:=x;have g:=(qG w.1.size w).alloc (qK _) (.cells #[.int .u64 (a:Nat),f,d] 117);have H:(w.alloc (.cells #[.int .u64 (a:Nat),f,d] 117)).cell? ⟨w.1.size,0,none⟩=some (.int .u64 (a:Nat)):=World.cell?_alloc_at _ _ _ _ rfl;have I:(w.alloc (.cells #[.int .u64 (a:Nat),f,d] 117)).cell? ⟨w.1.size,1,none⟩=some (.int .i64 f):=World.cell?_alloc_at _ _ _ _ rfl;have J:(w.alloc (.cells #[.int .u64 (a:Nat),f,d] 117)).cell? ⟨w.1.size,2,none⟩=some (.int .i64 d):=World.cell?_alloc_at _ _ _ _ rfl;by_cases n:l=[]
 ·subst n;have e:decide (([]:List jI).getLast? = some ⟨a,f,d⟩)=false:=qA (by simp);rw[e];clear h o G e;simp only[List.length_nil];go_enter func171,ntmps171;obtain⟨i,u⟩:∃i,w.alloc (.cells #[.int .u64 (a:Nat),f,d] 117)=i:=⟨_,rfl⟩
  rw[u]at g H I J;go_wp2;go_quiet (fail);go_wp2;go_ret;exact⟨rfl,uu g _⟩
 ·obtain⟨m,t⟩:∃m,l.length=m+1:=⟨l.length-1,by have:=List.length_pos_iff.2 n;omega⟩
  obtain⟨y,z⟩:∃y,l[m]? = some y:=⟨_,qE (by omega)⟩
  have e:decide (l.getLast? = some ⟨a,f,d⟩)=decide (y=⟨a,f,d⟩):=by rw[Re t,z];exact decide_eq_decide.2 ⟨qb,congrArg some⟩
  rw[e];obtain⟨b,rfl,j,B,C,F⟩:=o m y z;have c0:=(g.cell (p:=⟨b,off+m*3,none⟩) j).trans B;have c1:=(g.cell (p:=⟨b,off+m*3+1,none⟩) j).trans C;have c2:=(g.cell (p:=⟨b,off+m*3+2,none⟩) j).trans F;have K:=fun W=>UI y ⟨a,f,d⟩ W
  obtain⟨k,r⟩:∃k,k=l.length:=⟨_,rfl⟩
  have M:k=m+1:=r.trans t;rw[<-r];have N:(k:Int)-1=(m:Int):=by omega
  have O:decide ((0:Int)<(k:Int))=true:=qB (by omega);have R:decide (0<k)=true:=qB (by omega);have S:(0:Int)<(k:Int):=by omega
  have T:0<k:=by omega
  have P:IntKind.i64.wrap ((m:Nat):Int)=(m:Nat):=qz _ ⟨by omega,by omega⟩;have Q:(m:Int)<(k:Int):=by omega
  clear h o G e t z j B C F M r n;generalize decide (y=(⟨a,f,d⟩:jI))=q at*;obtain⟨U,X,V⟩:=y;simp only at c0 c1 c2 K;go_enter func171,ntmps171;obtain⟨i,u⟩:∃i,w.alloc (.cells #[.int .u64 (a:Nat),f,d] 117)=i:=⟨_,rfl⟩
  rw[u]at g H I J c0 c1 c2;go_wp2;go_quiet (fail);go_wp2;go_ret;exact⟨rfl,uu g _⟩
end
section
open Go.RowKit Go.Shelf
section
variable {At:j6}{c:Ctx}{gl gd:Nat}{L L':jq}{D D':jL}{w w':World}
theorem TSt.new(api:j8 At)(h:TSt At c gl gd L D w)(i:jP [] w w')(g:w.1.size<w'.1.size):TSt At { c with G:=w.1.size::c.G,wG:=w' } gl gd L D w':=by
 have f:∀b∈c.G,b<w.1.size:=by
  obtain⟨F,k,l,m,n,o,p,d⟩:=h;intro b a;have:=(d b a).2.1;omega
 refine h.own api (i.more (fun x j=>by cases j)) (fun b a=>?_) (fun b a=>?_)
 ·rcases qM.1 a with rfl|a
  ·exact qY (qK _)
  ·exact qX a
 ·rcases qM.1 a with rfl|a
  ·exact g
  ·have:=f b a;omega
theorem TSt.box(api:j8 At)(h:TSt At c gl gd L D w)(o:Obj):TSt At { c with G:=w.1.size::c.G,wG:=w.alloc o } gl gd L D (w.alloc o):=h.new api ((jP.refl [] w).alloc o) (by simp)
theorem TSt.xW(h:TSt At c gl gd L D w){b:Nat}(d:b∈c.G){t:TypeId}{cs:Array Value}(a:jN c.wG b t cs):jN w b t cs:=(h.zX d).trans a
theorem TSt.lt(h:TSt At c gl gd L D w){b:Nat}(d:b∈c.G):b<c.wG.1.size/\b<w.1.size:=by
 obtain⟨F,f,g,i,j,k,l,a⟩:=h;have:=(a b d).2.1;omega
def cU(c:Ctx)(w W:World):Prop:=w.1.size<=W.1.size/\c.wG.1.size<=w.1.size/\∀b∈c.G,b<w.1.size/\W.heap[b]? = w.heap[b]?
theorem TSt.keep(h:TSt At c gl gd L D w):cU c w w:=by
 refine⟨qK _, ?_,fun b d=>⟨(h.lt d).2,rfl⟩⟩;obtain⟨F,f,g,i,j,k,a,l⟩:=h;exact a
theorem cU.xC{W d:World}(h:cU c w W)(f:jP [] W d):cU c w d:=⟨qR h.1 f.size,h.2.1,fun b a=>⟨(h.2.2 b a).1,(f.block b (by have:=(h.2.2 b a).1;have:=h.1;omega) (by simp)).trans (h.2.2 b a).2⟩⟩
theorem cU.alloc{W:World}(h:cU c w W)(o:Obj):cU c w (W.alloc o):=h.xC ((jP.refl [] W).alloc o)
theorem cU.below{W a:World}(h:cU c w W)(b:Below W.1.size W a):cU c w a:=h.xC (jP.xA b)
theorem cU.call{a:Ctx}{W:World}(h:cU c w a.wG)(f:TSt At a gl gd L D W)(i:∀b∈c.G,b∈a.G):cU c w W:=by
 refine⟨?_,h.2.1,fun b d=>⟨(h.2.2 b d).1,(f.zX (i b d)).trans (h.2.2 b d).2⟩⟩;obtain⟨F,j,k,l,m,n,g,o⟩:=f;exact qR h.1 g
theorem TSt.xr{a:Ctx}(h:TSt At a gl gd L D w')(g:TSt At c gl gd L' D' w)(f:cU c w a.wG)(i:a.w0=c.w0)(j:a.F0=c.F0)(k:a.base=c.base)(l:a.m=c.m)(n:∀b∈c.G,b∈a.G):TSt At c gl gd L D w' :=
 h.back i j k l (qR f.2.1 f.1) (fun b d=>⟨n b d,(g.lt d).1,(f.2.2 b d).2.trans (g.zX d)⟩)
end
section
variable {At:j6}(api:j8 At){c:Ctx}{gl gd:Nat}{L L':jq}{D D':jL}{w w':World}{B1 B2 B3:Nat}{nm s:Tw}
include api
theorem Ro(h:TSt At c gl gd L D w)(ok:WfP D)(f:B1∈c.G)(b:jN c.wG B1 70 #[ptr gl])(g:B3∈c.G)(d:jN c.wG B3 9 #[nm])(k:nm.size<=maxLen):
  Calls prog 200 #[ptr B1,ptr B3] w (vI At c gl gd (err (jk D nm).1) L (jk D nm).2):=by
 have t:=qQ fun(W:World) (u:TSt At c gl gd L D W)=>u.xE api (fun F hF=>api.create nm hF ok.ok k)
 have j:=qQ h;have q:w.cell? ⟨B1,0,none⟩=some (ptr gl):=(h.xW f b).cell 0;have r:w.cell? ⟨B3,0,none⟩=some (.string nm):=(h.xW g d).cell 0;have c1:=h.cells.2.1;have o:=qQ f;have m:=qQ b;have p:=qQ g;have n:=qQ d;generalize jk D nm=v at*;clear h ok f b g d k;go_enter func200,ntmps200;go_wp2_with fail
 go_region_held3 (fun w'=>w'.cell? ⟨B1,0,none⟩=some (ptr gl)/\w'.cell? ⟨gl,1,none⟩=some (ptr gd)/\w'.cell? ⟨B3,0,none⟩=some (.string nm)) (first|assumption|exact⟨by assumption,by assumption,by assumption⟩|exact⟨q,c1,r⟩) (first
  | (go_at_call 201;refine(t.out _ (by first|exact j.out.drew api|exact j.out)).mono ?_;rintro e i⟨rfl,a⟩;have y:i.cell? ⟨gl,1,none⟩=some (ptr gd):=a.cells.2.1;have z:i.cell? ⟨B1,0,none⟩=some (ptr gl):=(a.xW o.out m.out).cell 0;have A:i.cell? ⟨B3,0,none⟩=some (.string nm):=(a.xW p.out n.out).cell 0)
  | fail)
 all_goals
  have l:=qQ a;clear a;go_wp2;go_ret;exact⟨rfl,l.out⟩
theorem Rw(h:TSt At c gl gd L D w)(ok:WfP D)(i:B1∈c.G)(d:jN c.wG B1 70 #[ptr gl])(k:B3∈c.G)(g:jN c.wG B3 9 #[nm])(j:B2∈c.G)(f:jN c.wG B2 9 #[s])(m:nm.size<=maxLen)(C:s.size<=1000000):
  Calls prog 202 #[ptr B1,ptr B3,ptr B2] w (vI At c gl gd (err (jr D nm s).1) L (jr D nm s).2):=by
 have A:=qQ fun(W:World) (B:TSt At c gl gd L D W)=>B.xE api (fun F hF=>api.append nm s hF ok.ok (by omega) m)
 have l:=qQ h;have v:w.cell? ⟨B1,0,none⟩=some (ptr gl):=(h.xW i d).cell 0;have z:w.cell? ⟨B3,0,none⟩=some (.string nm):=(h.xW k g).cell 0;have y:w.cell? ⟨B2,0,none⟩=some (.string s):=(h.xW j f).cell 0;have c1:=h.cells.2.1;have r:=qQ i;have o:=qQ d;have u:=qQ k;have q:=qQ g;have t:=qQ j;have p:=qQ f;generalize jr D nm s=H at*;clear h ok i d k g m j f C;go_enter func202,ntmps202;go_wp2_with fail
 go_region_held3 (fun w'=>w'.cell? ⟨B1,0,none⟩=some (ptr gl)/\w'.cell? ⟨gl,1,none⟩=some (ptr gd)/\w'.cell? ⟨B3,0,none⟩=some (.string nm)/\w'.cell? ⟨B2,0,none⟩=some (.string s)) (first|assumption|exact⟨by assumption,by assumption,by assumption,by assumption⟩|exact⟨v,c1,z,y⟩) (first
  | (go_at_call 203;refine(A.out _ (by first|exact l.out.drew api|exact l.out)).mono ?_;rintro e b⟨rfl,a⟩;have I:b.cell? ⟨gl,1,none⟩=some (ptr gd):=a.cells.2.1;have J:b.cell? ⟨B1,0,none⟩=some (ptr gl):=(a.xW r.out o.out).cell 0;have K:b.cell? ⟨B3,0,none⟩=some (.string nm):=(a.xW u.out q.out).cell 0;have M:b.cell? ⟨B2,0,none⟩=some (.string s):=(a.xW t.out p.out).cell 0)
  | fail)
 all_goals
  have n:=qQ a;clear a;go_wp2;go_ret;exact⟨rfl,n.out⟩
end
def uz{α:Type}(a b c d:α):Nat->α
 | 0=>a
 | 1=>b
 | 2=>c
 | _=>d
theorem JC{D:jL}{L:jq}(ok:WfP D):WfP (v7 D L).2.1:=by
 unfold v7;split
 ·exact ok
 ·split<;>exact mr ok _
section
variable {At:j6}(api:j8 At)(nap:kZ)(cap:v8){c:Ctx}{gl gd:Nat}{L L':jq}{D D':jL}{w w':World}
include api nap
theorem SQ{B1 B2 B3 B4:Nat}{nm s:Tw}(h:TSt At c gl gd L D w)(ok:WfP D)(v:L.chunks<=200)(r:B1∈c.G)(o:jN c.wG B1 70 #[ptr gl])(t:B3∈c.G)(p:jN c.wG B3 9 #[nm])(B:B2∈c.G)(z:jN c.wG B2 9 #[s])
  (C:B4∈c.G) (J:TypeId) (A:jN c.wG B4 J #[.func (.func 97) #[ptr gl] #[],.func (.func 200) #[] #[ptr B1,ptr B3],.func (.func 202) #[] #[ptr B1,ptr B3,ptr B2]]) (m:nm.size<=maxLen) (y:s.size<=1000000):
  Calls prog 76 #[.slice (some ⟨B4,0,none⟩) 3 3] w (vI At c gl gd (err (uX (uX (v7 D L) (onD fun E=>jk E nm)) (onD fun E=>jr E nm s)).1) (uX (uX (v7 D L) (onD fun E=>jk E nm)) (onD fun E=>jr E nm s)).2.2 (uX (uX (v7 D L) (onD fun E=>jk E nm)) (onD fun E=>jr E nm s)).2.1):=by
 have u:WfP (v7 D L).2.1:=JC ok;have F:WfP (jk (v7 D L).2.1 nm).2:=lj u nm
 have H:=ZL (b:=B4) (n:=3) (by omega) (uz (v7 D L).1 (jk (v7 D L).2.1 nm).1 (jr (jk (v7 D L).2.1 nm).2 nm s).1 0)
  (fun k W=>TSt At c gl gd (uz L (v7 D L).2.2 (v7 D L).2.2 (v7 D L).2.2 k) (uz D (v7 D L).2.1 (jk (v7 D L).2.1 nm).2 (jr (jk (v7 D L).2.1 nm).2 nm s).2 k) W)
  (uz 97 200 202 0) (uz #[ptr gl] #[] #[] #[]) (uz #[] #[ptr B1,ptr B3] #[ptr B1,ptr B3,ptr B2] #[])
  (fun k f=>by
   match k,f with
   | 0,_=>exact enters_of func97 (by kernel_rfl) rfl
   | 1,_=>exact enters_of func200 (by kernel_rfl) rfl
   | 2,_=>exact enters_of func202 (by kernel_rfl) rfl)
  (fun k W f d=>by
   have q:=(d.xW C A).cell k
   match k,f with
   | 0,_=>exact q
   | 1,_=>exact q
   | 2,_=>exact q)
  (fun k W f d=>by
   match k,f with
   | 0,_=>exact Yv api nap d ok v
   | 1,_=>exact Ro api d u r o t p m
   | 2,_=>exact Rw api d F r o t p B z m y) w h
 refine KG H fun w' d=>?_;generalize v7 D L=a at*;obtain⟨I,i,K⟩:=a;dsimp only at d ⊢;by_cases j:I=0
 ·subst j;by_cases g:(jk i nm).1=0
  ·by_cases l:(jr (jk i nm).2 nm s).1=0
   ·simp[stR,uz,uX,onD,g,l]at d ⊢;exact⟨by simp,d⟩
   ·simp[stR,uz,uX,onD,g,l]at d ⊢;exact⟨rfl,d⟩
  ·simp[stR,uz,uX,onD,g]at d ⊢;exact⟨rfl,d⟩
 ·simp[stR,uz,uX,j]at d ⊢;exact⟨rfl,d⟩
end
section
variable {At:j6}(api:j8 At)(nap:kZ)(cap:v8){c:Ctx}{gl gd:Nat}{L L':jq}{D D':jL}{w w':World}
include api nap cap
theorem SX(h:TSt At c gl gd L D w)(ok:WfP D)(I:L.chunks<=200)(r:Tw)(hr:r.size<=100000):
  Calls prog 147 #[ptr gl,r] w (vI At c gl gd (err (cJ D L r).1) (cJ D L r).2.2 (cJ D L r).2.1):=by
 have F:(hdS (L.chunks:Nat)++r).size<=1000000:=by
  rw[qy]
  have:(hdS (L.chunks:Nat)).size<=12:=by
   by_cases q:L.chunks<=199
   ·rw[lX q];exact qK _
   ·rw[ZC (by omega)];exact qI _
  omega
 have ha:∀W:World,(Op.stringOp .add (hdS (L.chunks:Nat)) r).run prog W=.ok (.string (hdS (L.chunks:Nat)++r)) W:=fun W=>run_string_add_sum (P:=prog) (w:=W) _ _ (by rw[qy]at F;omega)
 have Z:=qQ fun(W:World)=>cap.head (L.chunks:Nat) W (dS (by omega))
 have B:=h.box api (.cells #[ptr gl] 70);obtain⟨c0,c1,c2,c3,X,Y⟩:=B.cells;have q1:=(jN.new w 70 #[ptr gl]).cell 0;have o:=qQ h;have K:=qQ B;have N:=qQ (jN.new w 70 #[ptr gl]);have U:=qQ ok;have O:=qQ I;have Q:=qQ F;unfold cJ;by_cases H:200<=L.chunks
 ·rw[qV (qX H)];have t1:decide ((200:Int)<=(L.chunks:Int))=true:=qB (by omega);generalize J:hdS (L.chunks:Nat)++r=s at*;generalize G:hdS (L.chunks:Nat)=hd at*;clear h B F ok hr H I c0 c2 X Y J G;generalize m:(L.chunks:Int)=n at*;have t:=qQ (o.out.keep.alloc (.cells #[ptr gl] 70));generalize ac:w.1.size=B1 at*;generalize C:w.alloc (.cells #[ptr gl] 70)=W1 at*;have aa:=qQ C;go_enter func147,ntmps147;go_wp2_with fail;refine(Z.out _).mono ?_;rintro e i⟨rfl,a⟩;have k:=K.out.below api a;have l:=N.out.xC (jP.xA a) (by simp);have d:=k.box api (.cells #[s] 9);have f:=(jN.new i 9 #[s])
  have g:=l.alloc (.cells #[s] 9);obtain⟨u,d1,v,y,z,A⟩:=d.cells;rw[m]at y;have q2:=f.cell 0;have q3:=g.cell 0;have p:=qQ ((t.out.below a).alloc (.cells #[s] 9));generalize ad:i.1.size=B2 at*;generalize ae:i.alloc (.cells #[s] 9)=W2 at*;have H3:=qQ d;have T:=qQ f;have S:=qQ g;clear l a k d f g u v z A;go_wp2;go_ret;exact⟨rfl,H3.out.xr o.out p.out rfl rfl rfl rfl (fun b a=>by simp[a])⟩
 have t1:decide ((200:Int)<=(L.chunks:Int))=false:=qA (by omega);have ak:IntKind.i64.wrap (L.chunks:Int)=(L.chunks:Int):=qz _ (by omega);generalize J:hdS (L.chunks:Nat)++r=s at*;generalize G:hdS (L.chunks:Nat)=hd at*;cases hq:gG D s
 ·rw[qV (qY rfl)];clear h B F ok hr H I c0 c2 X Y J G;generalize m:(L.chunks:Int)=n at*;have t:=qQ (o.out.keep.alloc (.cells #[ptr gl] 70));generalize ac:w.1.size=B1 at*;generalize C:w.alloc (.cells #[ptr gl] 70)=W1 at*;have aa:=qQ C;go_enter func147,ntmps147;go_wp2_with fail;refine(Z.out _).mono ?_;rintro e i⟨rfl,a⟩;have k:=K.out.below api a;have l:=N.out.xC (jP.xA a) (by simp);have d:=k.box api (.cells #[s] 9);have f:=(jN.new i 9 #[s])
  have g:=l.alloc (.cells #[s] 9);obtain⟨u,d1,v,y,z,A⟩:=d.cells;rw[m]at y;have q2:=f.cell 0;have q3:=g.cell 0;have p:=qQ ((t.out.below a).alloc (.cells #[s] 9));generalize ad:i.1.size=B2 at*;generalize ae:i.alloc (.cells #[s] 9)=W2 at*;have R:=qQ (ZI api d U.out s Q.out);rw[hq]at R;have T:=qQ f;have S:=qQ g;clear l a k d f g u v z A;go_wp2_with fail;refine KG R.out fun w3 j=>?_;have ab:=qQ (p.out.call j (fun b a=>by simp[a]));have M:=qQ j;clear j R;go_wp2;go_ret;exact⟨rfl,M.out.xr o.out p.out rfl rfl rfl rfl (fun b a=>by simp[a])⟩
 ·rw[qZ (by simp;omega)];clear h B F ok hr H I c0 c2 X Y J G;generalize m:(L.chunks:Int)=n at*;have hN:=qQ fun W=>(nK nap L.chunks W (by have:=O.out;omega))
  have af:=qQ (mX (n:=L.chunks) (by have:=O.out;omega));rw[m]at hN;generalize nmC L.chunks=nm at*;have t:=qQ (o.out.keep.alloc (.cells #[ptr gl] 70));generalize ac:w.1.size=B1 at*;generalize C:w.alloc (.cells #[ptr gl] 70)=W1 at*;have aa:=qQ C;go_enter func147,ntmps147;go_wp2_with fail;refine(Z.out _).mono ?_;rintro e i⟨rfl,a⟩;have k:=K.out.below api a;have l:=N.out.xC (jP.xA a) (by simp);have d:=k.box api (.cells #[s] 9);have f:=(jN.new i 9 #[s])
  have g:=l.alloc (.cells #[s] 9);obtain⟨u,d1,v,y,z,A⟩:=d.cells;rw[m]at y;have q2:=f.cell 0;have q3:=g.cell 0;have p:=qQ ((t.out.below a).alloc (.cells #[s] 9));generalize ad:i.1.size=B2 at*;generalize ae:i.alloc (.cells #[s] 9)=W2 at*;have R:=qQ (ZI api d U.out s Q.out);rw[hq]at R;have T:=qQ f;have S:=qQ g;clear l a k d f g u v z A;go_wp2_with fail;refine KG R.out fun w3 j=>?_;have V:=j.xW (b:=B1) (by simp) S.out;have b2:=j.xW (b:=B2) (by simp) T.out;have g1:=V.cell 0;have g3:=j.cells.2.2.2.1;rw[m]at g3;have ab:=qQ (p.out.call j (fun b a=>by simp[a]));have M:=qQ j;have X1:=qQ V;have X2:=qQ b2;clear j V b2 R;go_wp2_with fail;refine KG (hN.out _) fun w4 a=>?_;have h5:=M.out.below api a;have x1:=X1.out.xC (jP.xA a) (by simp);have x2:=X2.out.xC (jP.xA a) (by simp);have h6:=h5.box api (.cells #[nm] 9);have y3:=(jN.new w4 9 #[nm])
  have y1:=x1.alloc (.cells #[nm] 9);have y2:=x2.alloc (.cells #[nm] 9);have q1:=y1.cell 0;have ag:=qQ ((ab.out.below a).alloc (.cells #[nm] 9));generalize ah:w4.1.size=B3 at*;generalize ai:w4.alloc (.cells #[nm] 9)=W4 at*;have aj:∀(fn:Fn) (first cap:Array Value) (w:World),(Instr.makeFunc fn first cap).run prog w=.ok (.func fn first cap) w:=fun _ _ _ _=>rfl
  have H6:=qQ h6;have Y1:=qQ y1;have Y2:=qQ y2;have Y3:=qQ y3;clear a h5 x1 x2 h6 y1 y2 y3;go_wp2_with fail;have y4:=jN.new W4 56 #[.func (.func 97) #[ptr gl] #[],.func (.func 200) #[] #[ptr B1,ptr B3],.func (.func 202) #[] #[ptr B1,ptr B3,ptr B2]];refine KG (SQ api nap (H6.out.box api (.cells #[.func (.func 97) #[ptr gl] #[],.func (.func 200) #[] #[ptr B1,ptr B3],.func (.func 202) #[] #[ptr B1,ptr B3,ptr B2]] 56)) U.out O.out (B1:=B1) (B2:=B2) (B3:=B3) (B4:=W4.1.size) (by simp) (Y1.out.alloc _) (by simp) (Y3.out.alloc _) (by simp) (Y2.out.alloc _) (by simp) _ y4 af.out Q.out) fun w6 h7=>?_;have h8:=qQ (h7.xr o.out (ag.out.alloc _) rfl rfl rfl rfl (fun b a=>by simp[a]));clear h7 y4;go_wp2;go_ret;exact⟨rfl,h8.out⟩
end
theorem SZ{D:jL}{L:jq}(ok:WfP D)(d:L.chunks<=200)(p:Tw):(uA D L p).1<=L.chunks/\(uA D L p).2.1<=1048576/\((uA D L p).2.2=0->(uA D L p).1≠L.chunks->0<L.chunks):=by
 have b:=td ok (nmC (L.chunks-1));unfold uA;split
 ·rename_i a;exact⟨qI _,Nat.le_of_lt (show 12<1048576 by decide),fun _ h=>absurd a.symm h⟩
 ·split
  ·split
   ·exact⟨Nat.sub_le _ _,b,fun _ _=>by omega⟩
   ·exact⟨qK _,Nat.le_of_lt (show 12<1048576 by decide),fun _ h=>absurd rfl h⟩
  ·exact⟨qI _,qI _,fun h=>absurd h (by assumption)⟩
theorem QM{a:Nat × jL × jq}{f:jL->jq->Nat × jL × jq}(h:WfP a.2.1)(b:∀D L,WfP D->WfP (f D L).2.1):WfP (uX a f).2.1:=by
 unfold uX;split
 ·exact b _ _ h
 ·exact h
theorem SJ{D:jL}{L:jq}(ok:WfP D)(r:Tw):WfP (cJ D L r).2.1:=by
 unfold cJ;split
 ·exact ok
 ·exact QM (QM (JC ok) (fun E _ h=>lj h _)) (fun E _ h=>lk h _ _)
theorem SK{D:jL}{L:jq}(ok:WfP D)(r:Tw):WfP (uR D L r).2:=by
 unfold uR;split
 ·exact ok
 ·exact lk ok _ _
theorem GJ{D:jL}{L:jq}(ok:WfP D)(p:Tw):WfP (uS D L p).2.2.1:=by
 unfold uS;split
 ·exact ok
 ·split
  ·exact ok
  ·split
   ·exact ok
   ·have a:WfP (if (uA D L p).1=L.chunks then cJ D L (jj p) else onD (fun E=>uR E L (jj p)) D L).2.1:=by
     split
     ·exact SJ ok _
     ·exact SK ok _
    dsimp only;generalize (if (uA D L p).1=L.chunks then cJ D L (jj p) else onD (fun E=>uR E L (jj p)) D L)=r at a ⊢;split<;>exact a
section
variable {At:j6}(api:j8 At)(nap:kZ)(cap:v8){c:Ctx}{gl gd:Nat}{L L':jq}{D D':jL}{w w':World}
include api nap
theorem SV(g:c.m=ptr gl)(h:TSt At c gl gd L D w)(ok:WfP D)(f:L.chunks<=200):Calls prog 49 #[ptr gl] w (vI At c gl gd (err (yA D L).1) (yA D L).2.2 (yA D L).2.1):=by
 have i:=qQ (nJ api g h);have k:=qQ fun(W:World) (n:TSt At c gl gd L D W)=>Yv api nap n ok f
 unfold yA;by_cases b:vu D L=0
 ·rw[qZ (by simp[b])];rw[b]at i;generalize v7 D L=r at*;clear h ok f b g;go_enter func49,ntmps49;go_wp2_with fail;refine i.out.mono ?_;rintro e o⟨rfl,a⟩;have d:=qQ a;clear a;go_wp2_with fail;refine(k.out _ d.out).mono ?_;rintro e p⟨rfl,j⟩;have l:=qQ j;clear j;go_wp2;go_ret;exact⟨rfl,l.out⟩
 ·rw[qV b];have t:((vu D L:Int) != 0)=true:=by simp;omega
  generalize vu D L=y at*;clear h ok f b g k;go_enter func49,ntmps49;go_wp2_with fail;refine i.out.mono ?_;rintro e o⟨rfl,a⟩;have d:=qQ a;clear a;go_wp2;go_ret;exact⟨rfl,d.out⟩
variable (cap:v8)
include cap
theorem GK(G:c.m=ptr gl)(h:TSt At c gl gd L D w)(ok:WfP D)(q:L.chunks<=200)(p:Tw)(C:p.size<=maxLen):Calls prog 88 #[ptr gl,p] w (vI At c gl gd (.tuple #[.int .i64 ((uS D L p).1:Nat),err (uS D L p).2.1]) (uS D L p).2.2.2 (uS D L p).2.2.1):=by
 have H:=qQ (nJ api G h);unfold uS;by_cases A:vu D L=0
 case neg =>
  rw[qV A];have t:((vu D L:Int) != 0)=true:=by simp;omega
  generalize vu D L=y at*;clear h ok q A G C;go_enter func88,ntmps88;go_wp2_with fail;refine H.out.mono ?_;rintro e Q⟨rfl,b⟩;have i:=qQ b;clear b;go_wp2;go_ret2;exact⟨rfl,i.out⟩
 rw[qZ (by simp[A])];rw[A]at H;clear A;have F:=qQ fun(W:World)=>cap.put p W C
 by_cases u:2000<p.size
 ·rw[qV u];have z:prE p=3:=by unfold prE;rw[qV u]
  rw[z]at F;generalize prS p=T at*;clear h ok q G C u z;go_enter func88,ntmps88;go_wp2_with fail;refine H.out.mono ?_;rintro e Q⟨rfl,b⟩;have i:=qQ b;clear b;go_wp2_with fail;refine(F.out _).mono ?_;rintro e U⟨rfl,f⟩;have k:=qQ (i.out.below api f);clear f;go_wp2;go_ret2;exact⟨rfl,k.out⟩
 rw[qZ u];have z:prE p=0:=by unfold prE;rw[qZ u]
 have K:prS p=jj p:=by unfold prS;rw[qZ u]
 rw[z,K]at F;have S:(jj p).size<=2012:=by rw[gU];omega
 have j:=qQ fun(W:World) (j:TSt At c gl gd L D W)=>O6 api nap cap j ok q p C
 obtain⟨O,P,I⟩:=SZ ok q p;generalize uA D L p=tg at*;obtain⟨n,a,e⟩:=tg;dsimp only at O P I j ⊢;by_cases A:e=0
 case neg =>
  rw[qV A];have t:((e:Int) != 0)=true:=by simp;omega
  generalize jj p=T at*;clear h ok q G C u z K O P I S A;go_enter func88,ntmps88;go_wp2_with fail;refine H.out.mono ?_;rintro e Q⟨rfl,b⟩;have i:=qQ b;clear b;go_wp2_with fail;refine(F.out _).mono ?_;rintro e U⟨rfl,f⟩;have k:=qQ (i.out.below api f);clear f;go_wp2_with fail;refine KG (j.out _ k.out) fun w3 d=>?_;have v:=qQ d;clear d;go_wp2;go_ret2;exact⟨rfl,v.out⟩
 subst A;rw[qZ (by simp)];have hFr:=qQ fun(W:World)=>tc n W (by omega)
 have V:(n:Int)<=200:=by omega
 have X:(a:Int)<=1048576:=by omega
 have Y:(0:Int)<=n:=by omega
 have Z:(0:Int)<=a:=by omega
 have k5:((jj p).size:Int)<=2012:=by omega
 have ab:IntKind.i64.wrap ((n:Int)*4096+(a:Int))=(n:Int)*4096+(a:Int):=qz _ (by omega);have ac:IntKind.i64.wrap ((n:Int)*4096+(a:Int)+((jj p).size:Nat))=(n:Int)*4096+(a:Int)+((jj p).size:Nat):=qz _ (by omega);have ad:IntKind.i64.wrap ((n:Int)+1)=(n:Int)+1:=qz _ (by omega);have N:((4096*n+a:Nat):Int)=(n:Int)*4096+(a:Int):=by omega
 have M:((4096*n+a+(jj p).size:Nat):Int)=(n:Int)*4096+(a:Int)+((jj p).size:Nat):=by omega
 by_cases B:n=L.chunks
 ·rw[qV B];have J:=qQ fun(W:World) (j:TSt At c gl gd L D W)=>SX api nap cap j ok q (jj p) (by omega)
  generalize cJ D L (jj p)=r at*;generalize jj p=T at*;have t1:((n:Int)==(L.chunks:Int))=true:=by rw[B];simp
  have EN:=qQ N;have EE:=qQ M;have HN:=qQ B;by_cases l:r.1=0
  case neg =>
   rw[qV l];have t:((r.1:Int) != 0)=true:=(by simp;omega);generalize r.1=y at*;clear h ok q G C u z K O P I S l V X Y Z k5 B N M;go_enter func88,ntmps88;go_wp2_with fail;refine H.out.mono ?_;rintro e Q⟨rfl,b⟩;have i:=qQ b;clear b;go_wp2_with fail;refine(F.out _).mono ?_;rintro e U⟨rfl,f⟩;have k:=qQ (i.out.below api f);clear f;go_wp2_with fail;refine KG (j.out _ k.out) fun w3 d=>?_;have c3:=d.cells.2.2.2.1;have v:=qQ d;clear d;go_wp2_with fail;refine KG (J.out _ v.out) fun w4 o=>?_;have g:=qQ o;clear o;go_wp2;go_ret2;exact⟨rfl,g.out⟩
  rw[qZ (by simp[l])];rw[l]at J;clear h ok q G C u z K O P I S l V X Y Z k5 B N M;go_enter func88,ntmps88;go_wp2_with fail;refine H.out.mono ?_;rintro e Q⟨rfl,b⟩;have i:=qQ b;clear b;go_wp2_with fail;refine(F.out _).mono ?_;rintro e U⟨rfl,f⟩;have k:=qQ (i.out.below api f);clear f;go_wp2_with fail;refine KG (j.out _ k.out) fun w3 d=>?_;have c3:=d.cells.2.2.2.1;have v:=qQ d;clear d;go_wp2_with fail;refine KG (J.out _ v.out) fun w4 o=>?_;have g:=qQ o;clear o;go_wp2_with fail;refine X5 (hFr.out _) ?_;have d3:=g.out.cells.2.2.2.1;have d4:=g.out.cells.2.2.2.2.1;have f3:=g.out.frozen 3;have f4:=g.out.frozen 4;go_wp2;have R:=(g.out.zB api (n+1)).zQ api (4096*n+a+T.size);rw[EE.out,show((n+1:Nat):Int)=(n:Int)+1 from by omega]at R;go_ret2;exact⟨by rw[EN.out];rfl,R⟩
 ·rw[qZ B];have aa:=I rfl B;have J:=qQ fun(W:World) (j:TSt At c gl gd L D W)=>(show Calls prog 148 #[ptr gl,.string (jj p)] W (vI At c gl gd (err (onD (fun E=>uR E L (jj p)) D L).1) (onD (fun E=>uR E L (jj p)) D L).2.2 (onD (fun E=>uR E L (jj p)) D L).2.1) from O7 api nap j ok q aa (jj p) (by omega))
  generalize onD (fun E=>uR E L (jj p)) D L=r at*;generalize jj p=T at*;have t1:((n:Int)==(L.chunks:Int))=false:=by simp;omega
  have EN:=qQ N;have EE:=qQ M;by_cases l:r.1=0
  case neg =>
   rw[qV l];have t:((r.1:Int) != 0)=true:=(by simp;omega);generalize r.1=y at*;clear h ok q G C u z K O P I S l V X Y Z k5 B N M aa;go_enter func88,ntmps88;go_wp2_with fail;refine H.out.mono ?_;rintro e Q⟨rfl,b⟩;have i:=qQ b;clear b;go_wp2_with fail;refine(F.out _).mono ?_;rintro e U⟨rfl,f⟩;have k:=qQ (i.out.below api f);clear f;go_wp2_with fail;refine KG (j.out _ k.out) fun w3 d=>?_;have c3:=d.cells.2.2.2.1;have v:=qQ d;clear d;go_wp2_with fail;refine KG (J.out _ v.out) fun w4 o=>?_;have g:=qQ o;clear o;go_wp2;go_ret2;exact⟨rfl,g.out⟩
  rw[qZ (by simp[l])];rw[l]at J;clear h ok q G C u z K O P I S l V X Y Z k5 B N M aa;go_enter func88,ntmps88;go_wp2_with fail;refine H.out.mono ?_;rintro e Q⟨rfl,b⟩;have i:=qQ b;clear b;go_wp2_with fail;refine(F.out _).mono ?_;rintro e U⟨rfl,f⟩;have k:=qQ (i.out.below api f);clear f;go_wp2_with fail;refine KG (j.out _ k.out) fun w3 d=>?_;have c3:=d.cells.2.2.2.1;have v:=qQ d;clear d;go_wp2_with fail;refine KG (J.out _ v.out) fun w4 o=>?_;have g:=qQ o;clear o;go_wp2_with fail;refine X5 (hFr.out _) ?_;have d3:=g.out.cells.2.2.2.1;have d4:=g.out.cells.2.2.2.2.1;have f3:=g.out.frozen 3;have f4:=g.out.frozen 4;go_wp2;have R:=(g.out.zB api (n+1)).zQ api (4096*n+a+T.size);rw[EE.out,show((n+1:Nat):Int)=(n:Int)+1 from by omega]at R;go_ret2;exact⟨by rw[EN.out];rfl,R⟩
end
theorem rf: jo.size<=maxLen:=by decide
def fH{α:Type}(a b c d e:α):Nat->α
 | 0=>a
 | 1=>b
 | 2=>c
 | 3=>d
 | _=>e
section
variable {At:j6}(api:j8 At){c:Ctx}{gl gd:Nat}{L L':jq}{D D':jL}{w w':World}{B1 B2 B3:Nat}{nm s:Tw}
include api
theorem SY(h:TSt At c gl gd L D w)(ok:WfP D)(b:B1∈c.G)(a:jN c.wG B1 70 #[ptr gl]):
  Calls prog 241 #[ptr B1] w (vI At c gl gd (err (jk D jo).1) L (jk D jo).2):=by
 have i:=qQ fun(W:World) (j:TSt At c gl gd L D W)=>j.xE api (fun F hF=>api.create jo hF ok.ok rf)
 have g:=qQ h;have n:w.cell? ⟨B1,0,none⟩=some (ptr gl):=(h.xW b a).cell 0;have c1:=h.cells.2.1;have m:=qQ b;have l:=qQ a;generalize jk D jo=k at*;have o:(⟨#[110,101,119]⟩:Tw)=jo:=rfl;clear h ok b a;go_enter func241,ntmps241;go_wp2_with fail;refine(i.out _ g.out).mono ?_;rintro e p⟨rfl,d⟩;have f:=qQ d;clear d;go_wp2;go_ret;exact⟨rfl,f.out⟩
theorem SU(h:TSt At c gl gd L D w)(ok:WfP D)(f:B1∈c.G)(b:jN c.wG B1 70 #[ptr gl])(g:B3∈c.G)(d:jN c.wG B3 9 #[s])(u:s.size<=1100000):
  Calls prog 242 #[ptr B1,ptr B3] w (vI At c gl gd (err (jr D jo s).1) L (jr D jo s).2):=by
 have r:=qQ fun(W:World) (t:TSt At c gl gd L D W)=>t.xE api (fun F hF=>api.append jo s hF ok.ok (by omega) rf)
 have j:=qQ h;have p:w.cell? ⟨B1,0,none⟩=some (ptr gl):=(h.xW f b).cell 0;have c1:=h.cells.2.1;have n:=qQ f;have l:=qQ b;have q:w.cell? ⟨B3,0,none⟩=some (.string s):=(h.xW g d).cell 0;have o:=qQ g;have m:=qQ d;generalize jr D jo s=v at*;have B:(⟨#[110,101,119]⟩:Tw)=jo:=rfl;clear h ok f b g d u;go_enter func242,ntmps242;go_wp2_with fail
 go_region_held3 (fun w'=>w'.cell? ⟨B1,0,none⟩=some (ptr gl)/\w'.cell? ⟨gl,1,none⟩=some (ptr gd)/\w'.cell? ⟨B3,0,none⟩=some (.string s)) (first|assumption|exact⟨by assumption,by assumption,by assumption⟩|exact⟨p,c1,q⟩) (first
  | (go_at_call 203;refine(r.out _ (by first|exact j.out.drew api|exact j.out)).mono ?_;rintro e i⟨rfl,a⟩;have y:i.cell? ⟨gl,1,none⟩=some (ptr gd):=a.cells.2.1;have z:i.cell? ⟨B1,0,none⟩=some (ptr gl):=(a.xW n.out l.out).cell 0;have A:i.cell? ⟨B3,0,none⟩=some (.string s):=(a.xW o.out m.out).cell 0)
  | fail)
 all_goals
  have k:=qQ a;clear a;go_wp2;go_ret;exact⟨rfl,k.out⟩
theorem SG(h:TSt At c gl gd L D w)(ok:WfP D)(b:B1∈c.G)(a:jN c.wG B1 70 #[ptr gl]):
  Calls prog 243 #[ptr B1] w (vI At c gl gd (err (kJ D jo).1) L (kJ D jo).2):=by
 have i:=qQ fun(W:World) (j:TSt At c gl gd L D W)=>j.xE api (fun F hF=>api.sync jo hF ok.ok rf)
 have g:=qQ h;have n:w.cell? ⟨B1,0,none⟩=some (ptr gl):=(h.xW b a).cell 0;have c1:=h.cells.2.1;have m:=qQ b;have l:=qQ a;generalize kJ D jo=k at*;have o:(⟨#[110,101,119]⟩:Tw)=jo:=rfl;clear h ok b a;go_enter func243,ntmps243;go_wp2_with fail;refine(i.out _ g.out).mono ?_;rintro e p⟨rfl,d⟩;have f:=qQ d;clear d;go_wp2;go_ret;exact⟨rfl,f.out⟩
theorem SW(h:TSt At c gl gd L D w)(ok:WfP D)(f:B1∈c.G)(b:jN c.wG B1 70 #[ptr gl])(g:B2∈c.G)(d:jN c.wG B2 9 #[nm])(k:nm.size<=maxLen):
  Calls prog 244 #[ptr B1,ptr B2] w (vI At c gl gd (err (vj D jo nm).1) L (vj D jo nm).2):=by
 have t:=qQ fun(W:World) (u:TSt At c gl gd L D W)=>u.xE api (fun F hF=>api.rename jo nm hF ok.ok k rf)
 have j:=qQ h;have q:w.cell? ⟨B1,0,none⟩=some (ptr gl):=(h.xW f b).cell 0;have c1:=h.cells.2.1;have o:=qQ f;have m:=qQ b;have r:w.cell? ⟨B2,0,none⟩=some (.string nm):=(h.xW g d).cell 0;have p:=qQ g;have n:=qQ d;generalize vj D jo nm=v at*;have B:(⟨#[110,101,119]⟩:Tw)=jo:=rfl;clear h ok f b g d k;go_enter func244,ntmps244;go_wp2_with fail
 go_region_held3 (fun w'=>w'.cell? ⟨B1,0,none⟩=some (ptr gl)/\w'.cell? ⟨gl,1,none⟩=some (ptr gd)/\w'.cell? ⟨B2,0,none⟩=some (.string nm)) (first|assumption|exact⟨by assumption,by assumption,by assumption⟩|exact⟨q,c1,r⟩) (first
  | (go_at_call 245;refine(t.out _ (by first|exact j.out.drew api|exact j.out)).mono ?_;rintro e i⟨rfl,a⟩;have y:i.cell? ⟨gl,1,none⟩=some (ptr gd):=a.cells.2.1;have z:i.cell? ⟨B1,0,none⟩=some (ptr gl):=(a.xW o.out m.out).cell 0;have A:i.cell? ⟨B2,0,none⟩=some (.string nm):=(a.xW p.out n.out).cell 0)
  | fail)
 all_goals
  have l:=qQ a;clear a;go_wp2;go_ret;exact⟨rfl,l.out⟩
theorem SA{B4:Nat}(h:TSt At c gl gd L D w)(ok:WfP D)(j:B1∈c.G)(i:jN c.wG B1 70 #[ptr gl])(z:B2∈c.G)(u:jN c.wG B2 9 #[nm])(A:B3∈c.G)(v:jN c.wG B3 9 #[s])
  (B:B4∈c.G) (F:TypeId) (y:jN c.wG B4 F #[.func (.func 241) #[] #[ptr B1],.func (.func 242) #[] #[ptr B1,ptr B3],.func (.func 243) #[] #[ptr B1],.func (.func 244) #[] #[ptr B1,ptr B2]]) (r:nm.size<=maxLen) (t:s.size<=1100000):
  Calls prog 76 #[.slice (some ⟨B4,0,none⟩) 4 4] w (vI At c gl gd (err (mQ D nm s).1) L (mQ D nm s).2):=by
 have o:WfP (jk D jo).2:=lj ok jo;have p:WfP (jr (jk D jo).2 jo s).2:=lk o jo s;have C:WfP (kJ (jr (jk D jo).2 jo s).2 jo).2:=mr p jo
 have H:=ZL (b:=B4) (n:=4) (by omega) (fH (jk D jo).1 (jr (jk D jo).2 jo s).1 (kJ (jr (jk D jo).2 jo s).2 jo).1 (vj (kJ (jr (jk D jo).2 jo s).2 jo).2 jo nm).1 0)
  (fun k W=>TSt At c gl gd L (fH D (jk D jo).2 (jr (jk D jo).2 jo s).2 (kJ (jr (jk D jo).2 jo s).2 jo).2 (vj (kJ (jr (jk D jo).2 jo s).2 jo).2 jo nm).2 k) W)
  (fH 241 242 243 244 0) (fH #[] #[] #[] #[] #[]) (fH #[ptr B1] #[ptr B1,ptr B3] #[ptr B1] #[ptr B1,ptr B2] #[])
  (fun k f=>by
   match k,f with
   | 0,_=>exact enters_of func241 (by kernel_rfl) rfl
   | 1,_=>exact enters_of func242 (by kernel_rfl) rfl
   | 2,_=>exact enters_of func243 (by kernel_rfl) rfl
   | 3,_=>exact enters_of func244 (by kernel_rfl) rfl)
  (fun k W f a=>by
   have q:=(a.xW B y).cell k
   match k,f with
   | 0,_=>exact q
   | 1,_=>exact q
   | 2,_=>exact q
   | 3,_=>exact q)
  (fun k W f a=>by
   match k,f with
   | 0,_=>exact SY api a ok j i
   | 1,_=>exact SU api a o j i A v t
   | 2,_=>exact SG api a p j i
   | 3,_=>exact SW api a C j i z u r) w h
 refine KG H fun w' a=>?_;unfold mQ;by_cases d:(jk D jo).1=0
 ·by_cases g:(jr (jk D jo).2 jo s).1=0
  ·by_cases l:(kJ (jr (jk D jo).2 jo s).2 jo).1=0
   ·by_cases m:(vj (kJ (jr (jk D jo).2 jo s).2 jo).2 jo nm).1=0
    ·simp[stR,fH,fB,d,g,l,m]at a ⊢;exact⟨by simp,a⟩
    ·simp[stR,fH,fB,d,g,l,m]at a ⊢;exact⟨rfl,a⟩
   ·simp[stR,fH,fB,d,g,l]at a ⊢;exact⟨rfl,a⟩
  ·simp[stR,fH,fB,d,g]at a ⊢;exact⟨rfl,a⟩
 ·simp[stR,fH,fB,d]at a ⊢;exact⟨rfl,a⟩
theorem SB(h:TSt At c gl gd L D w)(ok:WfP D)(p:nm.size<=maxLen)(q:s.size<=1100000):
  Calls prog 190 #[ptr gl,nm,s] w (vI At c gl gd (err (mQ D nm s).1) L (mQ D nm s).2):=by
 have A:=qQ ok;have v:=qQ p;have y:=qQ q;have u:=qQ h;have k:=h.box api (.cells #[ptr gl] 70);have d:=jN.new w 70 #[ptr gl];have a:=h.keep.alloc (.cells #[ptr gl] 70);generalize G:w.1.size=B1 at*;generalize J:w.alloc (.cells #[ptr gl] 70)=g at*;have l:=k.box api (.cells #[nm] 9);have f:=jN.new g 9 #[nm];have d:=d.alloc (.cells #[nm] 9);have a:=a.alloc (.cells #[nm] 9);generalize H:g.1.size=B2 at*;generalize K:g.alloc (.cells #[nm] 9)=i at*;have m:=l.box api (.cells #[s] 9);have r:=jN.new i 9 #[s];have d:=d.alloc (.cells #[s] 9);have f:=f.alloc (.cells #[s] 9);have a:=a.alloc (.cells #[s] 9);generalize I:i.1.size=B3 at*;generalize M:i.alloc (.cells #[s] 9)=B at*;have n:=m.box api (.cells #[.func (.func 241) #[] #[ptr B1],.func (.func 242) #[] #[ptr B1,ptr B3],.func (.func 243) #[] #[ptr B1],.func (.func 244) #[] #[ptr B1,ptr B2]] 56);have t:=jN.new B 56 #[.func (.func 241) #[] #[ptr B1],.func (.func 242) #[] #[ptr B1,ptr B3],.func (.func 243) #[] #[ptr B1],.func (.func 244) #[] #[ptr B1,ptr B2]];have a:=a.alloc (.cells #[.func (.func 241) #[] #[ptr B1],.func (.func 242) #[] #[ptr B1,ptr B3],.func (.func 243) #[] #[ptr B1],.func (.func 244) #[] #[ptr B1,ptr B2]] 56);have N:∀(j:Fn) (first cap:Array Value) (w:World),(Instr.makeFunc j first cap).run prog w=.ok (.func j first cap) w:=fun _ _ _ _=>rfl
 have R:=qQ (SA api n A.out (B1:=B1) (B2:=B2) (B3:=B3) (by simp) (d.alloc _) (by simp) (f.alloc _) (by simp) (r.alloc _) (by simp) _ t v.out y.out);have z:=qQ a;clear h ok p q k l m n d f r t a;go_enter func190,ntmps190;go_wp2_with fail;refine R.out.mono ?_;rintro e O⟨rfl,o⟩;have C:=qQ (o.xr u.out z.out rfl rfl rfl rfl (fun b F=>by simp[F]));clear o;go_wp2;go_ret;exact⟨rfl,C.out⟩
end
end
section
open Go.RowKit
theorem SC(s:Tw):bs s.data.toList=s:=by
 apply qi;simp[bs]
theorem SD(s:Tw)(h:s.size=4):bs (be 4 (jz s))=s:=by
 have a:s.data.toList.length=4:=by rw[Array.length_toList];exact h
 unfold jz;rw[qm (by omega)];have e:=mg s.data.toList;rw[a]at e;rw[e,SC]
theorem GV(s:Tw)(h:s.size<=4):jz s<4294967296:=by
 unfold jz;have b:=fe (s.data.toList.take 8);have a:(s.data.toList.take 8).length<=4:=by rw[qT,Array.length_toList];have:s.data.size=s.size:=rfl;omega
 have d:256 ^ (s.data.toList.take 8).length<=256 ^ 4:=Nat.pow_le_pow_right (by decide) a;have:(256:Nat) ^ 4=4294967296:=by decide
 omega
theorem JD(s:Tw)(i j k:Nat)(a:i<=j)(b:j<=k):s.extract i j++s.extract j k=s.extract i k:=by
 rw[ByteArray.extract_append_extract,Nat.min_eq_left a,Nat.max_eq_right b]
theorem SE{s:Tw}(h:4<=s.size):yw s=true↔s=vv (s.extract 0 (s.size-4)):=by
 have a:(s.extract 0 (s.size-4)).size=s.size-4:=by rw[qk];omega
 have d:s.extract 0 (s.size-4)++s.extract (s.size-4) s.size=s:=by rw[JD _ _ _ _ (by omega) (by omega),ByteArray.extract_zero_size]
 unfold yw vv;rw[decide_eq_true_iff];constructor
 ·rintro ⟨_,e⟩;rw[<-e,d]
 ·intro e;refine⟨h, ?_⟩;have b:=congrArg (fun x=>x.extract (s.size-4) s.size) e;rw[b];have:=lQ (s.extract 0 (s.size-4)) (bs (yi (s.extract 0 (s.size-4)).data.toList)) ByteArray.empty (i:=s.size-4) (j:=s.size) a.symm (by rw[a,kP,pj];omega);rw[ByteArray.append_empty]at this;exact this
theorem SF(R:Tw)(n:Nat)(l:R.size=n+12)(o:jz (R.extract 0 4)=n):
  R=jj (R.extract 4 (4+n))↔(R.extract (n+8) (n+12)=R.extract 0 4/\yw (R.extract 0 (n+8))=true):=by
 have g:(R.extract 0 4).size=4:=by rw[qk];omega
 have t:(R.extract 4 (4+n)).size=n:=by rw[qk];omega
 have r:(R.extract 0 (n+8)).size=n+8:=by rw[qk];omega
 have d:=SD _ g;rw[o]at d;have m:R.extract 0 4++R.extract 4 (4+n)=R.extract 0 (n+4):=by rw[JD _ _ _ _ (by omega) (by omega),Nat.add_comm 4 n]
 have q:(R.extract 0 (n+8)).extract 0 (n+4)=R.extract 0 (n+4):=by rw[ByteArray.extract_extract];congr 1<;>omega
 have hw:R.extract 0 (n+8)++R.extract (n+8) (n+12)=R:=by rw[JD _ _ _ _ (by omega) (by omega),<-l,ByteArray.extract_zero_size]
 have p:jj (R.extract 4 (4+n))=vv (R.extract 0 (n+4))++R.extract 0 4:=by
  unfold jj;rw[t,d,m]
 have f:=SE (s:=R.extract 0 (n+8)) (by omega);rw[r,show n+8-4=n+4 by omega,q]at f;rw[f,p];have b:(vv (R.extract 0 (n+4))).size=n+8:=by rw[tP,qk];omega
 constructor
 ·intro e;constructor
  ·have a:=congrArg (fun x=>x.extract (n+8) (n+12)) e;rw[a];have:=lQ (vv (R.extract 0 (n+4))) (R.extract 0 4) ByteArray.empty (i:=n+8) (j:=n+12) b.symm (by rw[b,g]);rw[ByteArray.append_empty]at this;exact this
  ·have a:=congrArg (fun x=>x.extract 0 (n+8)) e;rw[a];have:=lQ ByteArray.empty (vv (R.extract 0 (n+4))) (R.extract 0 4) (i:=0) (j:=n+8) rfl (by rw[b];simp);rw[ByteArray.empty_append]at this;exact this
 ·rintro ⟨k,a⟩;rw[<-k,<-a,hw]
theorem SH(R:Tw)(n:Nat)(d:R.size=n+12)(h:yw (R.extract 0 (n+8))=true):(opA (R.extract 0 (n+8))).extract 4 (opA (R.extract 0 (n+8))).size=R.extract 4 (4+n):=by
 have b:(R.extract 0 (n+8)).size=n+8:=by rw[qk];omega
 have a:opA (R.extract 0 (n+8))=R.extract 0 (n+4):=by
  unfold opA;rw[qV h,b,ByteArray.extract_extract];congr 1<;>omega
 rw[a,ByteArray.extract_extract,qk];congr 1<;>omega
theorem SI(R:Tw)(n:Nat)(b:R.size=n+12)(h:yw (R.extract 0 (n+8))=true):(opA (R.extract 0 (n+8))).size=n+4:=by
 have a:(R.extract 0 (n+8)).size=n+8:=by rw[qk];omega
 unfold opA;rw[qV h,a,qk];omega
theorem SL(p:Tw)(w:World)(a:p.size<=maxLen)(h:2000<p.size):
  Calls prog 145 #[p] w (X3 (.tuple #[.string ByteArray.empty,.int .i64 3]) w):=by
 unfold maxLen at a;go_enter func145,ntmps145;go_wp2;go_ret2;exact⟨rfl,qG _ _⟩
theorem SM(p:Tw)(w:World)(h:p.size<=2000):
  Calls prog 145 #[p] w (X3 (.tuple #[.string (jj p),.int .i64 0]) w):=by
 have a:=qQ fun W=>gw p.size 4 W (by omega) (by omega) (by omega)
 have j:(bs (be 4 p.size)++p).size=p.size+4:=by rw[qy,kP,je];omega
 have d:(bs (be 4 p.size)).size=4:=by rw[kP,je]
 have k:∀w:World,(Op.stringOp .add (bs (be 4 p.size)) p).run prog w=.ok (.string (bs (be 4 p.size)++p)) w:=fun w=>run_string_add_sum (P:=prog) (w:=w) _ _ (by omega)
 have b:=qQ fun W=>oA (bs (be 4 p.size)++p) W (by unfold maxLen;omega)
 have i:=tP (bs (be 4 p.size)++p);have l:∀w:World,(Op.stringOp .add (vv (bs (be 4 p.size)++p)) (bs (be 4 p.size))).run prog w=.ok (.string (jj p)) w:=fun w=>run_string_add_sum (P:=prog) (w:=w) _ _ (by omega)
 generalize jj p=R at*;generalize vv (bs (be 4 p.size)++p)=S at*;generalize bs (be 4 p.size)++p=T at*;generalize bs (be 4 p.size)=N at*;clear j d i;go_enter func145,ntmps145;go_wp2_with fail;refine(a.out _).mono ?_;rintro e m⟨rfl,f⟩;go_wp2_with fail;refine(b.out _).mono ?_;rintro e n⟨rfl,g⟩;go_wp2;go_ret2;exact⟨rfl,bj f g⟩
theorem SN(p:Tw)(w:World)(a:p.size<=maxLen):
  Calls prog 145 #[p] w (X3 (.tuple #[.string (prS p),.int .i64 (prE p)]) w):=by
 unfold prS prE;by_cases h:2000<p.size
 ·rw[qV h,qV h];exact SL p w a h
 ·rw[qZ h,qZ h];exact SM p w (by omega)
theorem QN(s:Tw)(a:Int)(w:World)(f:s.size<=maxLen)(g:(Lit.int .i64 a).wf=true):
  Calls prog 155 #[s,a] w (X0 (.bool (decide (0<=a/\a<=s.size))) w):=by
 have i:=bounds_i64 g;unfold maxLen at f;by_cases b:0<=a
 ·by_cases d:a<=s.size
  ·rw[qB ⟨b,d⟩];go_enter func155,ntmps155;go_wp2;go_ret;exact⟨rfl,rfl⟩
  ·rw[qA (fun h=>d h.2)];go_enter func155,ntmps155;go_wp2;go_ret;exact⟨rfl,rfl⟩
 ·rw[qA (fun h=>b h.1)];go_enter func155,ntmps155;go_wp2;go_ret;exact⟨rfl,rfl⟩
theorem SO(s:Tw)(w:World)(b:s.size<=maxLen)(f:4<=s.size):
  Calls prog 210 #[s] w (X0 (.tuple #[.int .i64 (if 2000<jz (s.extract 0 4) then 0 else(jz (s.extract 0 4):Nat)),.bool (decide (jz (s.extract 0 4)<=2000))]) w):=by
 have a:=qQ fun W=>cI (s.extract 0 4) W (by unfold maxLen at*;rw[qk];omega)
 have g:=GV (s.extract 0 4) (by rw[qk];omega);generalize jz (s.extract 0 4)=n at*;unfold maxLen at b;by_cases h:2000<n
 ·rw[qV h,qA (by omega)];go_enter func210,ntmps210;go_wp2_with fail;refine(a.out _).mono ?_;rintro e d⟨rfl,rfl⟩;go_wp2;go_ret2;exact⟨rfl,rfl⟩
 ·rw[qZ h,qB (by omega)];go_enter func210,ntmps210;go_wp2_with fail;refine(a.out _).mono ?_;rintro e d⟨rfl,rfl⟩;go_wp2;go_ret2;exact⟨rfl,rfl⟩
def dJ(s:Tw):Bool:=decide (12<=s.size/\jz (s.extract 0 4)<=2000/\jz (s.extract 0 4)+12<=s.size)
def mA(s:Tw):Tw:=if dJ s=true then s.extract 0 (jz (s.extract 0 4)+12) else ByteArray.empty
theorem SR(s:Tw)(w:World)(d:s.size<=maxLen):
  Calls prog 156 #[s] w (X0 (.tuple #[.string (mA s),.bool (dJ s)]) w):=by
 unfold mA;by_cases f:12<=s.size
 ·have a:=qQ fun W=>SO s W d (by omega)
  have k:=GV (s.extract 0 4) (by rw[qk];omega);have b:dJ s=decide (jz (s.extract 0 4)<=2000/\jz (s.extract 0 4)+12<=s.size):=by unfold dJ;simp[f]
  rw[b];clear b;generalize jz (s.extract 0 4)=n at*;unfold maxLen at d;by_cases h:2000<n
  ·rw[qA (by omega),qZ (by decide)];rw[qA (by omega)]at a;go_enter func156,ntmps156;go_wp2_with fail;refine(a.out _).mono ?_;rintro e i⟨rfl,rfl⟩;go_wp2;go_ret2;exact⟨rfl,rfl⟩
  ·rw[qB (show n<=2000 by omega),qZ h]at a;by_cases g:n+12<=s.size
   ·rw[qB ⟨by omega,g⟩,qV rfl];have l:((n:Int)+12).toNat=n+12:=(by omega);have j:¬(s.size:Int)-12<(n:Int):=(by omega);go_enter func156,ntmps156;go_wp2_with fail;refine(a.out _).mono ?_;rintro e i⟨rfl,rfl⟩;go_wp2;go_ret2;exact⟨rfl,rfl⟩
   ·rw[qA (fun h=>g h.2),qZ (by decide)];have j:(s.size:Int)-12<(n:Int):=(by omega);go_enter func156,ntmps156;go_wp2_with fail;refine(a.out _).mono ?_;rintro e i⟨rfl,rfl⟩;go_wp2;go_ret2;exact⟨rfl,rfl⟩
 ·have b:dJ s=false:=by unfold dJ;simp[f]
  rw[b,qZ (by decide)];unfold maxLen at d;go_enter func156,ntmps156;go_wp2;go_ret2;exact⟨rfl,rfl⟩
theorem SS(s:Tw)(a:Int)(w:World)(d:s.size<=maxLen)(f:(Lit.int .i64 a).wf=true)(h:¬(0<=a/\a<=s.size)):
  Calls prog 94 #[s,a] w (rG w):=by
 have b:=qQ fun W=>QN s a W d f
 rw[qA h]at b;go_enter func94,ntmps94;go_wp2_with fail;refine(b.out _).mono ?_;rintro e g⟨rfl,rfl⟩;go_wp2;go_ret3;exact⟨rfl,qG _ _⟩
theorem GY(s:Tw)(k:Nat)(w:World)(g:s.size<=maxLen)(j:k<=s.size)
  (b:∀w:World,Calls prog 155 #[s,k] w (X0 (.bool true) w))
  (a:∀w:World,Calls prog 156 #[.string (s.extract k s.size)] w (X0 (.tuple #[.string ByteArray.empty,.bool false]) w)):
  Calls prog 94 #[s,k] w (rG w):=by
 have d:=qQ b;have f:=qQ a;clear b a;unfold maxLen at g;go_enter func94,ntmps94;go_wp2_with fail;refine(d.out _).mono ?_;rintro e i⟨rfl,rfl⟩;go_wp2_with fail;refine(f.out _).mono ?_;rintro e i⟨rfl,rfl⟩;go_wp2;go_ret3;exact⟨rfl,qG _ _⟩
theorem S1(s:Tw)(k:Nat)(w:World)(i:s.size<=maxLen)(n:k<=s.size)(R:Tw)(l:12<=R.size)(m:R.size<=2012)
  (d:∀w:World,Calls prog 155 #[s,k] w (X0 (.bool true) w))
  (b:∀w:World,Calls prog 156 #[.string (s.extract k s.size)] w (X0 (.tuple #[R,.bool true]) w))
  (a:¬R.extract (R.size-4) R.size=R.extract 0 4):
  Calls prog 94 #[s,k] w (rG w):=by
 have f:=qQ d;have g:=qQ b;have o:=ND a;have p:=Xf a;have q:((R.size:Int)-4).toNat=R.size-4:=by omega
 have r:(0:Int)<=(R.size:Int)-4:=by omega
 have t:(R.size:Int)-4<=R.size:=by omega
 have u:(4:Int)<=(R.size:Int):=by omega
 clear d b a;unfold maxLen at i;go_enter func94,ntmps94;go_wp2_with fail;refine(f.out _).mono ?_;rintro e j⟨rfl,rfl⟩;go_wp2_with fail;refine(g.out _).mono ?_;rintro e j⟨rfl,rfl⟩;go_wp2_with fail;go_region
 go_wp2;go_ret3;exact⟨rfl,uu (qG _ _) _⟩
theorem S5(s:Tw)(k:Nat)(w:World)(p:s.size<=maxLen)(u:k<=s.size)(R T:Tw)(q:12<=R.size)(r:R.size<=2012)(t:k+R.size<=s.size)
  (f:∀w:World,Calls prog 155 #[s,k] w (X0 (.bool true) w))
  (a:∀w:World,Calls prog 156 #[.string (s.extract k s.size)] w (X0 (.tuple #[R,.bool true]) w))
  (g:R.extract (R.size-4) R.size=R.extract 0 4)
  (d:∀w:World,Calls prog 157 #[.string (R.extract 0 (R.size-4))] w (X3 (.tuple #[T,.bool false]) w)):
  Calls prog 94 #[s,k] w (rG w):=by
 have l:=qQ f;have m:=qQ a;have n:=qQ d;have i:=YV g;have v:(!((R.extract (R.size-4) R.size).toList==(R.extract 0 4).toList))=false:=by rw[i];rfl
 have y:((R.extract (R.size-4) R.size).toList != (R.extract 0 4).toList)=false:=by simpa using i
 have z:((R.size:Int)-4).toNat=R.size-4:=by omega
 have A:(0:Int)<=(R.size:Int)-4:=by omega
 have B:(R.size:Int)-4<=R.size:=by omega
 have C:(4:Int)<=(R.size:Int):=by omega
 clear f a g d;unfold maxLen at p;go_enter func94,ntmps94;go_wp2_with fail;refine(l.out _).mono ?_;rintro e j⟨rfl,rfl⟩;go_wp2_with fail;refine(m.out _).mono ?_;rintro e j⟨rfl,rfl⟩;go_wp2_with fail;go_region
 go_wp2_with fail;refine(n.out _).mono ?_;rintro e j⟨rfl,b⟩;have o:=bj (uu (qG w.1.size w) _) b;clear b;go_wp2;go_ret3;exact⟨rfl,o⟩
theorem S6(s:Tw)(k:Nat)(w:World)(p:s.size<=maxLen)(y:k<=s.size)(R T:Tw)(q:12<=R.size)(r:R.size<=2012)(t:k+R.size<=s.size)
  (f:∀w:World,Calls prog 155 #[s,k] w (X0 (.bool true) w))
  (a:∀w:World,Calls prog 156 #[.string (s.extract k s.size)] w (X0 (.tuple #[R,.bool true]) w))
  (g:R.extract (R.size-4) R.size=R.extract 0 4)
  (d:∀w:World,Calls prog 157 #[.string (R.extract 0 (R.size-4))] w (X3 (.tuple #[T,.bool true]) w))
  (u:4<=T.size) (v:T.size<=3000):
  Calls prog 94 #[s,k] w (X3 (.tuple #[.string (T.extract 4 T.size),.int .i64 ((k:Int)+(R.size:Int)),.bool true]) w):=by
 have l:=qQ f;have m:=qQ a;have n:=qQ d;have i:=YV g;have z:(!((R.extract (R.size-4) R.size).toList==(R.extract 0 4).toList))=false:=by rw[i];rfl
 have A:((R.extract (R.size-4) R.size).toList != (R.extract 0 4).toList)=false:=by simpa using i
 have B:((R.size:Int)-4).toNat=R.size-4:=by omega
 have C:(0:Int)<=(R.size:Int)-4:=by omega
 have F:(R.size:Int)-4<=R.size:=by omega
 have G:(4:Int)<=(R.size:Int):=by omega
 clear f a g d;unfold maxLen at p;go_enter func94,ntmps94;go_wp2_with fail;refine(l.out _).mono ?_;rintro e j⟨rfl,rfl⟩;go_wp2_with fail;refine(m.out _).mono ?_;rintro e j⟨rfl,rfl⟩;go_wp2_with fail;go_region
 go_wp2_with fail;refine(n.out _).mono ?_;rintro e j⟨rfl,b⟩;have o:=bj (uu (qG w.1.size w) _) b;clear b;go_wp2;go_ret3;exact⟨rfl,o⟩
theorem GU(s:Tw)(k m i j:Nat)(h:j<=m):(s.extract k (k+m)).extract i j=s.extract (k+i) (k+j):=by
 rw[ByteArray.extract_extract,Nat.min_eq_left (by omega)]
theorem JE(s:Tw)(a:Int)(w:World)(l:s.size<=maxLen)(J:(Lit.int .i64 a).wf=true):
  Calls prog 94 #[s,a] w (ln s a w):=by
 by_cases h:¬(0<=a/\a<=s.size)
 ·refine(SS s a w l J h).mono fun e w' b=>rW ?_ b
  unfold bZ;by_cases P:0<=a
  ·rw[oF (by omega),Bool.and_false]
  ·rw[qA P,Bool.false_and]
 ·obtain⟨k,rfl⟩:∃k:Nat,a=k:=⟨a.toNat,by omega⟩
  have p:k<=s.size:=by omega
  have r:∀w:World,Calls prog 155 #[s,k] w (X0 (.bool true) w):=fun W=>by
   have:=QN s (k:Nat) W l J;rw[qB (by omega)]at this;exact this
  have d:=fun W=>SR (s.extract k s.size) W (by unfold maxLen at*;rw[qk];omega)
  have z:(s.extract k s.size).size=s.size-k:=by rw[qk];omega
  have A:∀i j,j<=s.size-k->(s.extract k s.size).extract i j=s.extract (k+i) (k+j):=fun i j X=>by
   rw[ByteArray.extract_extract];congr 1;omega
  by_cases Q:k+12<=s.size
  ·have y:jz ((s.extract k s.size).extract 0 4)=vQ s k:=(by rw[A _ _ (by omega)];rfl);by_cases B:vQ s k<=2000/\k+vQ s k+12<=s.size
   ·have f:dJ (s.extract k s.size)=true:=by
     unfold dJ;rw[y,z];exact qB ⟨by omega,B.1,by omega⟩
    have o:mA (s.extract k s.size)=s.extract k (k+vQ s k+12):=by
     unfold mA;rw[qV f,y,A _ _ (by omega),Nat.add_zero,Nat.add_assoc]
    rw[f,o]at d;have m:(s.extract k (k+vQ s k+12)).size=vQ s k+12:=by rw[qk];omega
    have O:jz ((s.extract k (k+vQ s k+12)).extract 0 4)=vQ s k:=by
     rw[Nat.add_assoc,GU _ _ _ _ _ (by omega),Nat.add_zero];rfl
    have u:=SF _ _ m O
    have F:(s.extract k (k+vQ s k+12)).extract 4 (4+vQ s k)=s.extract (k+4) (k+4+vQ s k):=by
     rw[Nat.add_assoc,GU _ _ _ _ _ (by omega),<-Nat.add_assoc]
    rw[F]at u;have G:=SH _ _ m;rw[F]at G;have H:=SI _ _ m;have v:=fun W=>Xh ((s.extract k (k+vQ s k+12)).extract 0 (vQ s k+8)) W (by unfold maxLen at*;rw[qk];omega)
    have S:=rU (s:=s) (k:=k);obtain⟨T,U⟩:=B;generalize C:s.extract k (k+vQ s k+12)=R at*;have n:R.size-4=vQ s k+8:=(by omega);by_cases t:R.extract (vQ s k+8) (vQ s k+12)=R.extract 0 4
    ·by_cases g:yw (R.extract 0 (vQ s k+8))=true
     ·obtain⟨K,M,N⟩:=Xo (S.2 ⟨Q,T,U,u.2 ⟨t,g⟩⟩);rw[g]at v;unfold ln;rw[K,M,N];have I:=S6 s k w l p R _ (by omega) (by omega) (by omega) r d (by rw[n,m];exact t) (by rw[n];exact v) (by rw[H g];omega) (by rw[H g];omega);rw[G g,m,show(k:Int)+((vQ s k+12:Nat):Int)=((k+vQ s k+12:Nat):Int) by omega]at I;exact I
     ·have V:yw (R.extract 0 (vQ s k+8))=false:=(by simpa using g);rw[V]at v;refine(S5 s k w l p R _ (by omega) (by omega) (by omega) r d (by rw[n,m];exact t) (by rw[n];exact v)).mono fun e w' b=>rW ?_ b
      rw[lf];exact oF (fun q=>g (u.1 (C.symm.trans q.2.2.2)).2)
    ·refine(S1 s k w l p R (by omega) (by omega) r d (by rw[n,m];exact t)).mono fun e w' b=>rW ?_ b
     rw[lf];exact oF (fun q=>t (u.1 (C.symm.trans q.2.2.2)).1)
   ·have f:dJ (s.extract k s.size)=false:=by
     unfold dJ;rw[y,z];exact qA (by omega)
    have o:mA (s.extract k s.size)=ByteArray.empty:=(by unfold mA;rw[f];rfl);rw[f,o]at d;refine(GY s k w l p r d).mono fun e w' b=>rW ?_ b
    rw[lf];exact oF (by omega)
  ·have f:dJ (s.extract k s.size)=false:=by
    unfold dJ;rw[z];exact qA (by omega)
   have o:mA (s.extract k s.size)=ByteArray.empty:=(by unfold mA;rw[f];rfl);rw[f,o]at d;refine(GY s k w l p r d).mono fun e w' b=>rW ?_ b
   rw[lf];exact oF (by omega)
def uj(s:Tw):Nat:=un (s.data.toList.take 2)
def vw(s:Tw):Bool:=decide (2<=s.size/\uj s+2<=s.size)
def rdA(s:Tw):Tw:=if vw s=true then s.extract 2 (2+uj s) else ByteArray.empty
def rdB(s:Tw):Tw:=if vw s=true then s.extract (2+uj s) s.size else ByteArray.empty
theorem S7(s:Tw):jz (s.extract 0 2)=uj s:=by
 unfold jz uj;have e:(s.extract 0 2).data.toList=s.data.toList.take 2:=by simp
 rw[e,qm (by rw[qT];omega)]
theorem GG(s:Tw):uj s<=65535:=by
 have h:=fe (s.data.toList.take 2);have a:(s.data.toList.take 2).length<=2:=by rw[qT];omega
 have b:256 ^ (s.data.toList.take 2).length<=256 ^ 2:=Nat.pow_le_pow_right (by decide) a;unfold uj;omega
theorem GW{s:Tw}(h:¬(2<=s.size/\uj s+2<=s.size)):vw s=false/\rdA s=ByteArray.empty/\rdB s=ByteArray.empty:=by
 have e:vw s=false:=by simpa[vw] using h
 simp[rdA,rdB,e]
theorem JF{s:Tw}(h:2<=s.size/\uj s+2<=s.size):vw s=true/\rdA s=s.extract 2 (2+uj s)/\rdB s=s.extract (2+uj s) s.size:=by
 have e:vw s=true:=by simpa[vw] using h
 simp[rdA,rdB,e]
theorem GA(s:Tw)(w:World):Calls prog 131 #[.string (s.extract 0 2)] w (X0 (.int .u64 (uj s:Nat)) w):=by
 rw[<-S7];exact cI _ w (by unfold maxLen;rw[qk];omega)
theorem Sq(s:Tw)(w:World)(d:s.size<=maxLen)(f:2<=s.size)(L:Nat)(g:L<=65535)(h:L+2<=s.size)
  (a:∀w:World,Calls prog 131 #[.string (s.extract 0 2)] w (X0 (.int .u64 (L:Nat)) w)):
  Calls prog 212 #[s] w (X3 (.tuple #[.string (s.extract 2 (2+L)),.string (s.extract (2+L) s.size),.bool true]) w):=by
 unfold maxLen at d;have b:=qQ a;clear a;go_enter func212,ntmps212;go_wp2_with (go_at_call 131;refine X5 (b.out _) ?_);go_quiet (fail);go_wp2;go_ret3;exact⟨rfl,uu (qG _ _) _⟩
theorem Sx(s:Tw)(w:World)(d:s.size<=maxLen)(f:2<=s.size)(L:Nat)(g:L<=65535)(h:s.size<L+2)
  (a:∀w:World,Calls prog 131 #[.string (s.extract 0 2)] w (X0 (.int .u64 (L:Nat)) w)):
  Calls prog 212 #[s] w (X3 (.tuple #[.string ByteArray.empty,.string ByteArray.empty,.bool false]) w):=by
 unfold maxLen at d;have b:=qQ a;clear a;go_enter func212,ntmps212;go_wp2_with (go_at_call 131;refine X5 (b.out _) ?_);go_ret3;exact⟨rfl,qG _ _⟩
theorem nC(s:Tw)(w:World)(g:s.size<=maxLen):
  Calls prog 212 #[s] w (X3 (.tuple #[.string (rdA s),.string (rdB s),.bool (vw s)]) w):=by
 by_cases f:2<=s.size
 ·by_cases h:uj s+2<=s.size
  ·obtain⟨a,b,d⟩:=JF ⟨f,h⟩;rw[a,b,d];exact Sq s w g f _ (GG s) h (GA s)
  ·obtain⟨a,b,d⟩:=GW (s:=s) (by omega);rw[a,b,d];exact Sx s w g f _ (GG s) (by omega) (GA s)
 ·obtain⟨a,b,d⟩:=GW (s:=s) (by omega);rw[a,b,d];clear a b d;go_enter func212,ntmps212;go_wp2;go_ret3;exact⟨rfl,qG _ _⟩
theorem Sz(n:Nat)(w:World)(a:n<18446744073709551616):
  Calls prog 142 #[.int .u64 (n:Nat),.int .i64 2] w fun e w'=>e=.returned (.string (bs (be 2 n)))/\Below w.1.size w w' :=
 gw n 2 w (by omega) (by omega) a
theorem Sj(s:Tw)(h:s.size<=65535)(l:List UInt8)(a:l.length=2)(w:World):(Op.stringOp .add (bs l) s).run prog w=.ok (.string (bs l++s)) w :=
 run_string_add_sum (P:=prog) (w:=w) (bs l) s (by rw[kP,a];omega)
theorem GB(s:Tw)(w:World)(h:s.size<=65535):
  Calls prog 141 #[s] w (X3 (.string (bs (be 2 s.size)++s)) w):=by
 have a:=qQ (Sz s.size w (by omega));have b:=Sj s h (be 2 s.size) (je _ _);go_enter func141,ntmps141;go_wp2_with (go_at_call 142;refine KG a.out fun w' d=>?_);go_ret;exact⟨rfl,‹Below _ _ _›⟩
def chk(t d:Tw):Int:=if t.size=0 then 2 else if 16<t.size∨200<d.size then 3 else 0
theorem Sk{t d:Tw}(h:t.size=0):chk t d=2:=by unfold chk;rw[qV h]
theorem GC{t d:Tw}(a:¬t.size=0)(h:16<t.size∨200<d.size):chk t d=3:=by unfold chk;rw[qZ a,qV h]
theorem Sv{t d:Tw}(a:¬t.size=0)(h:¬(16<t.size∨200<d.size)):chk t d=0:=by unfold chk;rw[qZ a,qZ h]
theorem rh{t d:Tw}:chk t d=0↔(1<=t.size/\t.size<=16/\d.size<=200):=by
 unfold chk;by_cases a:t.size=0
 ·rw[qV a];omega
 ·rw[qZ a];by_cases h:16<t.size∨200<d.size
  ·rw[qV h];omega
  ·rw[qZ h];omega
theorem JH(t d:Tw):chk t d=0∨chk t d=2∨chk t d=3:=by
 unfold chk;by_cases a:t.size=0
 ·rw[qV a];omega
 ·rw[qZ a];by_cases h:16<t.size∨200<d.size
  ·rw[qV h];omega
  ·rw[qZ h];omega
def evB(t d:Tw)(b:Nat):Tw:=bs (be 2 t.size)++t++(bs (be 2 d.size)++d)++bs (be 8 b)
theorem GD(t d:Tw)(b:Nat):(evB t d b).size=t.size+d.size+12:=by
 unfold evB;simp only[ByteArray.size_append,kP,je];omega
def erL(s:Tw):Tw:=rdB (rdB s)
def ya(s:Tw):Bool:=decide (8<=(erL s).size/\chk (rdA s) (rdA (rdB s))=0)
def erT(s:Tw):Tw:=if ya s=true then rdA s else ByteArray.empty
def erD(s:Tw):Tw:=if ya s=true then rdA (rdB s) else ByteArray.empty
def erW(s:Tw):Nat:=if ya s=true then jz (erL s) else 0
def erR(s:Tw):Tw:=if ya s=true then(erL s).extract 8 (erL s).size else ByteArray.empty
theorem QO{s:Tw}(h:ya s=true):erT s=rdA s/\erD s=rdA (rdB s)/\erW s=jz (erL s)/\erR s=(erL s).extract 8 (erL s).size:=by
 simp[erT,erD,erW,erR,h]
theorem JI{s:Tw}(h:ya s=false):erT s=ByteArray.empty/\erD s=ByteArray.empty/\erW s=0/\erR s=ByteArray.empty:=by
 simp[erT,erD,erW,erR,h]
theorem bg(s:Tw):(rdB s).size<=s.size:=by
 unfold rdB;by_cases h:vw s=true
 ·rw[qV h,qk];omega
 ·rw[qZ h];exact qI _
theorem rm(s:Tw):(rdA s).size<=s.size:=by
 unfold rdA;by_cases h:vw s=true
 ·rw[qV h,qk];omega
 ·rw[qZ h];exact qI _
theorem Sy(s:Tw):erW s<18446744073709551616:=by
 unfold erW;by_cases h:ya s=true
 ·rw[qV h];exact p9 _
 ·rw[qZ h];decide
theorem GE(s:Tw)(h:0<(rdB s).size):vw s=true:=by
 cases e:vw s with
 | true=>rfl
 | false =>
   unfold rdB at h;rw[e]at h;simp at h
theorem Su(s:Tw)(h:0<(erL s).size):vw s=true/\vw (rdB s)=true:=by
 have a:=GE (rdB s) h;refine⟨GE s ?_,a⟩;have:(rdB (rdB s)).size<=(rdB s).size:=bg _;unfold erL at h;omega
def QP(t d:Tw)(b:Nat)(g f:Tw)(a:Nat):Bool:=decide (t=g)&&decide (d=f)&&decide (b=a)
theorem Sg(t d:Tw)(b:Nat):QP t d b t d b=true:=by simp[QP]
theorem fI(s:Tw):s.data.toList.length=s.size:=Array.length_toList
theorem Sb{t:Tw}{n:Nat}{r:List UInt8}(a:n<=65535)(h:t.data.toList=be 2 n++r):uj t=n:=by
 unfold uj;rw[h,List.take_append_of_le_length (by rw[je];omega),qm (by rw[je];omega),dH];omega
theorem JL{t r:Tw}(h:t.size<=65535):rdA (bs (be 2 t.size)++t++r)=t/\rdB (bs (be 2 t.size)++t++r)=r/\vw (bs (be 2 t.size)++t++r)=true:=by
 have a:(bs (be 2 t.size)++t++r).data.toList=be 2 t.size++(t.data.toList++r.data.toList):=by
  simp only[ByteArray.data_append,Array.toList_append,List.append_assoc,bs]
 have b:uj (bs (be 2 t.size)++t++r)=t.size:=Sb h a;have i:(bs (be 2 t.size)++t++r).size=t.size+2+r.size:=by rw[qy,qy,kP,je];omega
 obtain⟨d,f,g⟩:=JF (s:=bs (be 2 t.size)++t++r) ⟨by omega,by omega⟩;refine⟨?_, ?_,d⟩
 ·rw[f,b];apply qi;apply Array.toList_inj.1;rw[ByteArray.data_extract,Array.toList_extract,a,List.extract,List.drop_left' (je 2 _),List.take_left' (by rw[fI];omega)]
 ·rw[g,b];apply qi;apply Array.toList_inj.1;rw[ByteArray.data_extract,Array.toList_extract,a,i,List.extract,<-List.drop_drop,List.drop_left' (je 2 _),List.drop_left' (fI t),qm (by rw[fI];omega)]
theorem JM{s:Tw}(h:vw s=true):bs (be 2 (rdA s).size)++rdA s++rdB s=s:=by
 have b:2<=s.size/\uj s+2<=s.size:=by simpa[vw] using h
 obtain⟨_,a,d⟩:=JF b;have i:(rdA s).size=uj s:=by rw[a,qk];omega
 rw[i,a,d];apply qi;apply Array.toList_inj.1;have g:s.data.toList.length=s.size:=fI s
 have f:be 2 (uj s)=s.data.toList.take 2:=by
  have:=mg (s.data.toList.take 2);rw[qT,g,Nat.min_eq_left b.1]at this;exact this
 simp only[ByteArray.data_append,Array.toList_append,ByteArray.data_extract,Array.toList_extract,List.extract,bs,f];rw[Nat.add_sub_cancel_left,qh,qm (l:=List.drop (2+uj s) s.data.toList) (by rw[qw];omega),<-List.drop_drop,qp,qp]
theorem GF{L:Tw}(h:8<=L.size):bs (be 8 (jz L))++L.extract 8 L.size=L:=by
 apply qi;apply Array.toList_inj.1;have b:L.data.toList.length=L.size:=fI L
 have a:be 8 (jz L)=L.data.toList.take 8:=by
  have:=mg (L.data.toList.take 8);rw[qT,b,Nat.min_eq_left h]at this;exact this
 simp only[ByteArray.data_append,Array.toList_append,ByteArray.data_extract,Array.toList_extract,List.extract,bs,a];rw[qm (l:=List.drop 8 L.data.toList) (by rw[qw];omega),qp]
theorem GH{b:Nat}(f:b<18446744073709551616)(r:Tw):jz (bs (be 8 b)++r)=b/\(bs (be 8 b)++r).extract 8 (bs (be 8 b)++r).size=r:=by
 have a:(bs (be 8 b)++r).data.toList=be 8 b++r.data.toList:=by simp only[ByteArray.data_append,Array.toList_append,bs]
 have d:(bs (be 8 b)++r).size=8+r.size:=by rw[qy,kP,je]
 constructor
 ·unfold jz;rw[a,List.take_left' (je 8 b),dH];exact Nat.mod_eq_of_lt (by omega)
 ·apply qi;apply Array.toList_inj.1;rw[ByteArray.data_extract,Array.toList_extract,a,d,List.extract,List.drop_left' (je 8 b),qm (by rw[fI];omega)]
theorem Sc(t d:Tw)(b:Nat)(r:Tw)(j:chk t d=0)(o:b<18446744073709551616):
  ya (evB t d b++r)=true/\erT (evB t d b++r)=t/\erD (evB t d b++r)=d/\erW (evB t d b++r)=b/\erR (evB t d b++r)=r:=by
 have A:=rh.1 j;have e:evB t d b++r=bs (be 2 t.size)++t++(bs (be 2 d.size)++d++(bs (be 8 b)++r)):=by unfold evB;simp only[ByteArray.append_assoc]
 obtain⟨g,a,y⟩:=JL (t:=t) (r:=bs (be 2 d.size)++d++(bs (be 8 b)++r)) (by omega);obtain⟨i,l,z⟩:=JL (t:=d) (r:=bs (be 8 b)++r) (by omega);obtain⟨m,n⟩:=GH o r;rw[e];have f:erL (bs (be 2 t.size)++t++(bs (be 2 d.size)++d++(bs (be 8 b)++r)))=bs (be 8 b)++r:=by unfold erL;rw[a,l]
 have k:ya (bs (be 2 t.size)++t++(bs (be 2 d.size)++d++(bs (be 8 b)++r)))=true:=by
  unfold ya;rw[f,g,a,i,j,qy,kP,je];simp
 obtain⟨p,q,u,v⟩:=QO k;refine⟨k, ?_, ?_, ?_, ?_⟩
 ·rw[p,g]
 ·rw[q,a,i]
 ·rw[u,f,m]
 ·rw[v,f,n]
theorem Sd{s:Tw}(h:ya s=true):chk (erT s) (erD s)=0/\evB (erT s) (erD s) (erW s)++erR s=s:=by
 obtain⟨b,d,j,k⟩:=QO h;have a:8<=(erL s).size/\chk (rdA s) (rdA (rdB s))=0:=by simpa[ya] using h
 obtain⟨g,i⟩:=Su s (by omega);refine⟨by rw[b,d];exact a.2, ?_⟩;rw[b,d,j,k];have l:=JM g;have m:=JM i;have n:=GF a.1;have e:evB (rdA s) (rdA (rdB s)) (jz (erL s))++(erL s).extract 8 (erL s).size=bs (be 2 (rdA s).size)++rdA s++(bs (be 2 (rdA (rdB s)).size)++rdA (rdB s)++(bs (be 8 (jz (erL s)))++(erL s).extract 8 (erL s).size)):=by unfold evB;simp only[ByteArray.append_assoc]
 rw[e,n];have f:erL s=rdB (rdB s):=rfl;rw[f,m,l]
theorem GI(b:Nat)(w:World):(callFunc 164 #[.float .f64 b]).run prog w=.ok (.value (.int .u64 (b:Nat))) w:=by
 rw[run_callFunc_extern func164 (by kernel_rfl) (by kernel_rfl) (by kernel_rfl) (e:=Extern.MathFloatBits.float64bits) (by kernel_rfl)];rfl
theorem QR(t d:Tw)(b:Nat)(w:World)(g:t.size<=maxLen)(f:d.size<=maxLen):
  Calls prog 137 #[.agg #[t,d,.float .f64 b]] w (X3 (.int .i64 (chk t d)) w):=by
 unfold maxLen at g f;by_cases a:t.size=0
 ·rw[Sk a];go_enter func137,ntmps137;go_wp2;go_ret;exact⟨rfl,(qG _ _).alloc (qK _) _⟩
 by_cases i:16<t.size
 ·rw[GC a (by omega)];go_enter func137,ntmps137;go_wp2;go_ret;exact⟨rfl,(qG _ _).alloc (qK _) _⟩
 by_cases j:200<d.size
 ·rw[GC a (by omega)];go_enter func137,ntmps137;go_wp2;go_ret;exact⟨rfl,(qG _ _).alloc (qK _) _⟩
 ·rw[Sv a (by omega)];go_enter func137,ntmps137;go_wp2;go_ret;exact⟨rfl,(qG _ _).alloc (qK _) _⟩
theorem ka{W0 W:World}{p:Addr}{v:Value}(h:Below W0.1.size W0 W)(b:p.block<W0.1.size)(a:W0.cell? p=some v):W.cell? p=some v:=(h.cell b).trans a
theorem GL(s:Tw)(d:s.size<=200)(W0 W:World)(h:Below W0.1.size W0 W):
  Calls prog 141 #[s] W fun e w'=>e=.returned (.string (bs (be 2 s.size)++s))/\Below W0.1.size W0 w' :=
 (GB s W (by omega)).mono fun e w' ⟨b,a⟩=>⟨b,bj h a⟩
theorem Sf(b:Nat)(a:b<18446744073709551616)(W0 W:World)(h:Below W0.1.size W0 W):
  Calls prog 142 #[.int .u64 (b:Nat),.int .i64 8] W fun e w'=>e=.returned (.string (bs (be 8 b)))/\Below W0.1.size W0 w' :=
 (gw b 8 W (by omega) (by omega) a).mono fun e w' ⟨d,a⟩=>⟨d,bj h a⟩
theorem Sh(t d:Tw)(b:Nat)(w:World)(g:b<18446744073709551616)(h:chk t d=0):
  Calls prog 143 #[.agg #[t,d,.float .f64 b]] w (X3 (.string (evB t d b)) w):=by
 have z:=rh.1 h;have j:=fun W=>QR t d b W (by unfold maxLen;omega) (by unfold maxLen;omega)
 rw[h]at j;have r:=qQ j;have n:=qQ (GL t (by omega));have k:=qQ (GL d (by omega));have l:=qQ (Sf b g);have J:=fun w=>GI b w
 have p:(bs (be 2 t.size)++t).size=t.size+2:=by rw[qy,kP,je];omega
 have q:(bs (be 2 d.size)++d).size=d.size+2:=by rw[qy,kP,je];omega
 have H:(bs (be 8 b)).size=8:=by rw[kP,je]
 have e:evB t d b=bs (be 2 t.size)++t++(bs (be 2 d.size)++d)++bs (be 8 b):=rfl;have K:∀w:World,(Op.stringOp .add (bs (be 2 t.size)++t) (bs (be 2 d.size)++d)).run prog w=.ok (.string (bs (be 2 t.size)++t++(bs (be 2 d.size)++d))) w:=fun w=>run_string_add_sum (P:=prog) (w:=w) _ _ (by omega)
 have I:(bs (be 2 t.size)++t++(bs (be 2 d.size)++d)).size=t.size+2+(d.size+2):=by rw[qy,p,q]
 have M:∀w:World,(Op.stringOp .add (bs (be 2 t.size)++t++(bs (be 2 d.size)++d)) (bs (be 8 b))).run prog w=.ok (.string (evB t d b)) w:=fun w=>run_string_add_sum (P:=prog) (w:=w) _ _ (by omega)
 generalize evB t d b=B at*;generalize bs (be 2 t.size)++t++(bs (be 2 d.size)++d)=X at*;generalize bs (be 2 t.size)++t=T at*;generalize bs (be 2 d.size)++d=D at*;generalize bs (be 8 b)=Q at*;clear p q H I e j h z g;go_enter func143,ntmps143;go_wp2_with fail;refine(r.out _).mono ?_;rintro e a⟨rfl,f⟩;have A:=f.size;rw[World.size_alloc]at A;have C:a.cell? ⟨w.1.size,0,none⟩=some (.string t):=ka f (by simp) (World.cell?_alloc_at _ _ _ _ rfl);have F:a.cell? ⟨w.1.size,1,none⟩=some (.string d):=ka f (by simp) (World.cell?_alloc_at _ _ _ _ rfl);have G:a.cell? ⟨w.1.size,2,none⟩=some (.float .f64 b):=ka f (by simp) (World.cell?_alloc_at _ _ _ _ rfl);have o:Below w.1.size w a:=((qG _ _).alloc (qK _) _).trans (f.mono (by simp))
 have m:Hid (∀W,Below a.1.size a W->Below a.1.size a W/\W.cell? ⟨w.1.size,0,none⟩=some (.string t)/\W.cell? ⟨w.1.size,1,none⟩=some (.string d)/\W.cell? ⟨w.1.size,2,none⟩=some (.float .f64 b)) :=
  qQ fun W i=>⟨i,ka i (show w.1.size<_ by omega) C,ka i (show w.1.size<_ by omega) F,ka i (show w.1.size<_ by omega) G⟩
 have y:=qQ fun W (h:Below a.1.size a W/\W.cell? ⟨w.1.size,0,none⟩=some (.string t)/\W.cell? ⟨w.1.size,1,none⟩=some (.string d)/\W.cell? ⟨w.1.size,2,none⟩=some (.float .f64 b))=>n.out a W h.1
 have u:=qQ fun W (h:Below a.1.size a W/\W.cell? ⟨w.1.size,0,none⟩=some (.string t)/\W.cell? ⟨w.1.size,1,none⟩=some (.string d)/\W.cell? ⟨w.1.size,2,none⟩=some (.float .f64 b))=>k.out a W h.1
 have v:=qQ fun W (h:Below a.1.size a W/\W.cell? ⟨w.1.size,0,none⟩=some (.string t)/\W.cell? ⟨w.1.size,1,none⟩=some (.string d)/\W.cell? ⟨w.1.size,2,none⟩=some (.float .f64 b))=>l.out a W h.1
 clear f n k l;go_wp2_with fail
 go_region_held3 (fun W=>Below a.1.size a W/\W.cell? ⟨w.1.size,0,none⟩=some (.string t)/\W.cell? ⟨w.1.size,1,none⟩=some (.string d)/\W.cell? ⟨w.1.size,2,none⟩=some (.float .f64 b))
  (first|assumption|exact m.out _ (by assumption)|exact m.out _ (qG _ _).drew|fail) (first
  | (go_at_call 141;((with_reducible refine KG (y.out _ (by assumption)) fun w' g=>?_)))
  | (go_at_call 141;((with_reducible refine KG (u.out _ (by assumption)) fun w' g=>?_)))
  | (go_at_call 142;((with_reducible refine KG (v.out _ (by assumption)) fun w' g=>?_)))
  | fail)
 all_goals
  go_wp2;go_ret;exact⟨rfl,o.trans ((And.left (‹Below a.1.size a _/\_›)).mono o.size)⟩
theorem ox{a b:Tw}(h:a=b):(a.toList==b.toList)=true:=by rw[h,beq_iff_eq]
theorem rn{a b:Tw}(h:¬a=b):(a.toList==b.toList)=false:=by
 rw[qg];intro x;rw[Lib.toList_data,Lib.toList_data]at x;exact h (qi (Array.toList_inj.1 x))
end
section
open Go.RowKit
theorem dK(P:Program)(w:World)(a:Addr)(m:Mode)(k:FloatKind)(b:Nat):(store a (.float k b) m).run P w=stored P w a (.float k b) m:=run_store P w a _ m rfl
attribute [local go_sem] dK
def yT(w:World)(g:Nat)(t d:Tw)(b:Nat):Prop:=w.heap[g]? = some (.cells #[t,d,.float .f64 b] 64 (0,0))
theorem yT.c0{w:World}{g:Nat}{t d:Tw}{b:Nat}(h:yT w g t d b):w.cell? ⟨g,0,none⟩=some (.string t):=by unfold yT at h;simp[World.cell?,h]
theorem yT.c1{w:World}{g:Nat}{t d:Tw}{b:Nat}(h:yT w g t d b):w.cell? ⟨g,1,none⟩=some (.string d):=by unfold yT at h;simp[World.cell?,h]
theorem yT.c2{w:World}{g:Nat}{t d:Tw}{b:Nat}(h:yT w g t d b):w.cell? ⟨g,2,none⟩=some (.float .f64 b):=by unfold yT at h;simp[World.cell?,h]
theorem yT.fz{w:World}{g:Nat}{t d:Tw}{b:Nat}(h:yT w g t d b)(i:Nat):w.frozen? ⟨g,i,none⟩=false:=by unfold yT at h;simp[World.frozen?,h]
theorem yT.new(w:World)(t d:Tw)(b:Nat):yT (w.alloc (.cells #[t,d,.float .f64 b] 64)) w.1.size t d b:=by
 show(w.heap.push _)[w.1.size]? = _;simp
theorem yT.lt{w:World}{g:Nat}{t d:Tw}{b:Nat}(h:yT w g t d b):g<w.1.size:=by
 obtain⟨a,_⟩:=qn.1 h;exact a
theorem yT.below{w w':World}{g:Nat}{t d:Tw}{b:Nat}(h:yT w g t d b)(a:Below w.1.size w w'):yT w' g t d b:=(a.block g h.lt).trans h
theorem yT.zC{w:World}{g:Nat}{t d:Tw}{b:Nat}(h:yT w g t d b)(i f:Tw)(a:Nat):
  yT (((w.setCell ⟨g,0,none⟩ (.string i)).setCell ⟨g,1,none⟩ (.string f)).setCell ⟨g,2,none⟩ (.float .f64 a)) g i f a:=by
 unfold yT at h ⊢;simp[World.setCell,Array.getElem?_modify,h]
theorem rp{w w2:World}(h:Below w.1.size w w2)(d b:Value)(a:Value):
  Below w.1.size w (((w2.setCell ⟨w.1.size,0,none⟩ d).setCell ⟨w.1.size,1,none⟩ b).setCell ⟨w.1.size,2,none⟩ a):=((h.setCell (qK _) _).setCell (qK _) _).setCell (qK _) _
theorem Sl(s:Tw)(w:World)(f:s.size<=maxLen)(h:¬8<=(erL s).size):
  Calls prog 252 #[s] w (X3 (.tuple #[.agg #[.string ByteArray.empty,.string ByteArray.empty,.float .f64 0],.string ByteArray.empty,.bool false]) w):=by
 have l:=qQ fun W=>nC s W f
 have j:=qQ fun W=>nC (rdB s) W (qR (bg s) f)
 have B:(erL s).size<8:=by omega
 have k:rdB (rdB s)=erL s:=rfl;rw[k]at j;have g:=yT.new w ByteArray.empty ByteArray.empty 0;generalize erL s=L at*;generalize rdB s=R at*;generalize rdA s=A at*;generalize vw s=o at*;generalize rdA R=t at*;generalize vw R=C at*;clear k h f;go_enter func252,ntmps252;go_wp2_with fail;refine(l.out _).mono ?_;rintro e F⟨rfl,b⟩;have i:=g.below b;go_wp2_with fail;refine(j.out _).mono ?_;rintro e r⟨rfl,d⟩;have a:=i.below d;have m:Below w.1.size w r:=(((qG _ _).alloc (qK _) _).trans (b.mono (by simp))).trans (d.mono (by have:=b.size;simp at this;omega));have n:=a.c0;have p:=a.c1;have q:=a.c2;have u:=a.fz 0;have y:=a.fz 1;have z:=a.fz 2;clear g i a b d;go_wp2_with fail;exact bodyPost_ret (v:=.tuple #[.agg #[.string ByteArray.empty,.string ByteArray.empty,.float .f64 0],.string ByteArray.empty,.bool false]) (by simp[results,Tryz.results252,go_sem,n,p,q];rfl) rfl ⟨rfl,rp m _ _ _⟩
theorem Sm(s:Tw)(w:World)(f:s.size<=maxLen)(h:8<=(erL s).size)(J:¬chk (rdA s) (rdA (rdB s))=0):
  Calls prog 252 #[s] w (X3 (.tuple #[.agg #[.string ByteArray.empty,.string ByteArray.empty,.float .f64 0],.string ByteArray.empty,.bool false]) w):=by
 have K:=qQ fun W=>nC s W f
 have y:=qQ fun W=>nC (rdB s) W (qR (bg s) f)
 have M:=qQ fun W=>cI (erL s) W (qR (bg _) (qR (bg s) f))
 have Q:=fun b w=>Km b w
 have j:=fun b W=>QR (rdA s) (rdA (rdB s)) b W (qR (rm _) f) (qR (rm _) (qR (bg s) f))
 have I:rdB (rdB s)=erL s:=rfl;rw[I]at y;have t:=yT.new w ByteArray.empty ByteArray.empty 0;rcases JH (rdA s) (rdA (rdB s)) with g|g|g
 ·exact absurd g J
 all_goals
  rw[g]at j;have N:=qQ j;clear j g J;generalize jz (erL s)=n at*;generalize erL s=L at*;generalize rdB s=R at*;generalize rdA s=A at*;generalize vw s=o at*;generalize rdA R=r at*;generalize vw R=S at*;clear I f;go_enter func252,ntmps252;go_wp2_with fail;refine(K.out _).mono ?_;rintro e T⟨rfl,i⟩;have u:=t.below i;go_wp2_with fail;refine(y.out _).mono ?_;rintro e P⟨rfl,k⟩;have a:=u.below k;have H:Below w.1.size w P:=(((qG _ _).alloc (qK _) _).trans (i.mono (by simp))).trans (k.mono (by have:=i.size;simp at this;omega));have m:=a.c0;have p:=a.c1;have q:=a.c2;have C:=a.fz 0;have F:=a.fz 1;have G:=a.fz 2;have B:=qQ (a.zC A r n);have z:=qQ (rp H (.string A) (.string r) (.float .f64 n));clear t u a i k H;go_wp2_with fail;refine X5 (M.out _) ?_;go_wp2_with fail;refine(N.out _ _).mono ?_;rintro e U⟨rfl,l⟩;have d:=B.out.below l;have O:=bj z.out l;clear l B z m p q C F G;have m:=d.c0;have p:=d.c1;have q:=d.c2;have C:=d.fz 0;have F:=d.fz 1;have G:=d.fz 2;clear d;go_wp2_with fail;exact bodyPost_ret (v:=.tuple #[.agg #[.string ByteArray.empty,.string ByteArray.empty,.float .f64 0],.string ByteArray.empty,.bool false]) (by simp[results,Tryz.results252,go_sem,m,p,q];rfl) rfl ⟨rfl,rp O _ _ _⟩
theorem Sn(s:Tw)(w:World)(f:s.size<=maxLen)(h:8<=(erL s).size)(I:chk (rdA s) (rdA (rdB s))=0):
  Calls prog 252 #[s] w (X3 (.tuple #[.agg #[.string (rdA s),.string (rdA (rdB s)),.float .f64 (jz (erL s))],.string ((erL s).extract 8 (erL s).size),.bool true]) w):=by
 have J:=qQ fun W=>nC s W f
 have u:=qQ fun W=>nC (rdB s) W (qR (bg s) f)
 have K:=qQ fun W=>cI (erL s) W (qR (bg _) (qR (bg s) f))
 have Q:=fun b w=>Km b w
 have j:=fun b W=>QR (rdA s) (rdA (rdB s)) b W (qR (rm _) f) (qR (rm _) (qR (bg s) f))
 have O:(erL s).size<=maxLen:=qR (bg _) (qR (bg s) f);unfold maxLen at O;have H:rdB (rdB s)=erL s:=rfl;rw[H]at u;have r:=yT.new w ByteArray.empty ByteArray.empty 0;rw[I]at j;have M:=qQ j;clear j I;generalize jz (erL s)=n at*;generalize erL s=L at*;generalize rdB s=R at*;generalize rdA s=A at*;generalize vw s=o at*;generalize rdA R=i at*;generalize vw R=S at*;clear H f;go_enter func252,ntmps252;go_wp2_with fail;refine(J.out _).mono ?_;rintro e T⟨rfl,g⟩;have t:=r.below g;go_wp2_with fail;refine(u.out _).mono ?_;rintro e P⟨rfl,k⟩;have a:=t.below k;have G:Below w.1.size w P:=(((qG _ _).alloc (qK _) _).trans (g.mono (by simp))).trans (k.mono (by have:=g.size;simp at this;omega));have m:=a.c0;have p:=a.c1;have q:=a.c2;have B:=a.fz 0;have C:=a.fz 1;have F:=a.fz 2;have z:=qQ (a.zC A i n);have y:=qQ (rp G (.string A) (.string i) (.float .f64 n));clear r t a g k G;go_wp2_with fail;refine X5 (K.out _) ?_;go_wp2_with fail;refine(M.out _ _).mono ?_;rintro e U⟨rfl,l⟩;have d:=z.out.below l;have N:=bj y.out l;clear l z y m p q B C F;have m:=d.c0;have p:=d.c1;have q:=d.c2;have B:=d.fz 0;have C:=d.fz 1;have F:=d.fz 2;clear d;go_wp2_with fail;go_region
 all_goals
  go_wp2;exact bodyPost_ret (v:=.tuple #[.agg #[A,i,.float .f64 n],.string (L.extract 8 L.size),.bool true]) (by simp[results,Tryz.results252,go_sem,m,p,q]) rfl ⟨rfl,(rp N _ _ _).drew⟩
theorem GM{s:Tw}(h:8<=(erL s).size)(a:chk (rdA s) (rdA (rdB s))=0):ya s=true:=by simp[ya,h,a]
theorem GN{s:Tw}(h:¬8<=(erL s).size):ya s=false:=by simp[ya];omega
theorem GO{s:Tw}(a:¬chk (rdA s) (rdA (rdB s))=0):ya s=false:=by simp[ya,a]
theorem Sp(s:Tw)(w:World)(i:s.size<=maxLen):
  Calls prog 252 #[s] w (X3 (.tuple #[.agg #[.string (erT s),.string (erD s),.float .f64 (erW s)],.string (erR s),.bool (ya s)]) w):=by
 by_cases h:8<=(erL s).size
 ·by_cases a:chk (rdA s) (rdA (rdB s))=0
  ·obtain⟨b,d,f,g⟩:=QO (GM h a);rw[b,d,f,g,GM h a];exact Sn s w i h a
  ·obtain⟨b,d,f,g⟩:=JI (GO a);rw[b,d,f,g,GO a];exact Sm s w i h a
 ·obtain⟨b,d,f,g⟩:=JI (GN h);rw[b,d,f,g,GN h];exact Sl s w i h
end
section
open Go.RowKit
theorem GP(b:Nat)(w:World)(d:b<18446744073709551616):
  Calls prog 214 #[.float .f64 b] w (X0 (.int .u64 (bR b:Nat)) w):=by
 have a:=fun w=>GI b w
 by_cases h:9223372036854775808<=b
 ·have t:decide ((9223372036854775808:Int)<=(b:Int))=true:=Fl h;have e:(18446744073709551615:Int)-(b:Int)=((bR b:Nat):Int):=by unfold bR;rw[qZ (by omega)];omega
  go_enter func214,ntmps214;go_wp2;go_ret;exact⟨rfl,rfl⟩
 ·have t:decide ((9223372036854775808:Int)<=(b:Int))=false:=Fp h;have e:(b:Int)+9223372036854775808=((bR b:Nat):Int):=by unfold bR;rw[qV (by omega)];omega
  go_enter func214,ntmps214;go_wp2;go_ret;exact⟨rfl,rfl⟩
theorem Sr(a b:Nat)(w:World)(f:a<18446744073709551616)(g:b<18446744073709551616):
  Calls prog 159 #[.float .f64 a,.float .f64 b] w (X0 (.bool (decide (a=b))) w):=by
 have i:=qQ (fun w=>GP a w f);have j:=qQ (fun w=>GP b w g)
 have e:((bR a:Int)==(bR b:Int))=decide (a=b):=by
  by_cases h:a=b
  ·subst h;simp
  ·rw[qA h];have:¬bR a=bR b:=fun e=>h (LB f g e)
   exact qg.2 (by omega)
 generalize bR a=x at*;generalize bR b=y at*;generalize decide (a=b)=d at*;clear f g;go_enter func159,ntmps159;go_wp2_with fail;refine X5 (i.out _) ?_;go_wp2_with fail;refine X5 (j.out _) ?_;go_wp2;go_ret;exact⟨rfl,rfl⟩
theorem Ss(t d:Tw)(b:Nat)(j i:Tw)(a:Nat)(w:World)(l:b<18446744073709551616)(m:a<18446744073709551616):
  Calls prog 96 #[.agg #[t,d,.float .f64 b],.agg #[j,i,.float .f64 a]] w (X3 (.bool (QP t d b j i a)) w):=by
 have n:=qQ fun W=>Sr b a W l m
 have k:Below w.1.size w ((w.alloc (.cells #[t,d,.float .f64 b] 64)).alloc (.cells #[j,i,.float .f64 a] 64)):=((qG _ _).alloc (qK _) _).alloc (by simp) _;unfold QP;generalize decide (b=a)=q at*;clear l m;by_cases f:t=j
 ·have o:=ox f;rw[qB f];clear f;by_cases g:d=i
  ·have p:=ox g;rw[qB g];clear g;go_enter func96,ntmps96;go_wp2_with fail;refine X5 (n.out _) ?_;go_wp2;go_ret;exact⟨rfl,k⟩
  ·have p:=rn g;rw[qA g];clear g;go_enter func96,ntmps96;go_wp2_with fail;go_ret;exact⟨rfl,k⟩
 ·have o:=rn f;rw[qA f];clear f;go_enter func96,ntmps96;go_wp2_with fail;go_ret;exact⟨rfl,k⟩
end
end Go.Proofs.YthejglbnkmimjaaGreat
