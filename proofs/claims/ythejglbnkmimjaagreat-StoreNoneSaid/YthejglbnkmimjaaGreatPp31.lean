import Derived.Test.YthejglbnkmimjaaGreatPp30
import Derived.Shelf.SlicesE.Compact
import Derived.RangeFuncNested
set_option linter.unusedVariables false
set_option maxRecDepth 100000
set_option maxHeartbeats 9000000
namespace Go.Proofs.YthejglbnkmimjaaGreat
open Tryz
section
open Go.RowKit Go.Shelf
section
variable {At:jK}{w0 w w' W:World}{gd gx r:Nat}{S:IxS}{D D':zr}{E N Fm Gr Gk:List Nat}
theorem jy.back(m:IxM w w0.heap.size gx gd r S Fm Gr Gk)(i:DS At w0 gd D (Fm++(Gr++(Gk++E))) w)(c:∀b∈Fm,b ∉ Gr/\b ∉ Gk/\b ∉ E)(g:∀b∈Gr,b ∉ Gk/\b ∉ E)(j:∀b∈Gk,b ∉ E)(l:∀b∈Fm++Gr,w0.heap.size<=b)
  (o:DS At w0 gd D' (N++(Fm++(Gr++(Gk++E)))) w') (p:zt (Fm++(Gr++(Gk++E))) w w') (n:∀b∈N,w.heap.size<=b):jy At w0 gd gx r S D' (N++E) w':=by
 have d:=i.lt
 have f:∀b,b<w.heap.size->b ∉ E->b ∉ N++E:=fun b a s q=>by
  rcases qC.1 q with k|k
  ·have:=n b k;omega
  ·exact s k
 refine⟨Fm,Gr,Gk,o.less (fun b a=>?_),m.keep (p.less fun b a=>?_),fun b a=>⟨(c b a).1,(c b a).2.1,f b (d b (qA _ a)) (c b a).2.2⟩,fun b a=>⟨(g b a).1,f b (d b (qV _ (qA _ a))) (g b a).2⟩,fun b a=>f b (d b (qV _ (qV _ (qA _ a)))) (j b a),l⟩
 ·rcases qC.1 a with k|k
  ·exact qV _ (qA _ k)
  ·rcases qC.1 k with k|k
   ·exact qV _ (qV _ (qA _ k))
   ·rcases qC.1 k with k|k
    ·exact qV _ (qV _ (qV _ (qA _ k)))
    ·rcases qC.1 k with k|k
     ·exact qA _ k
     ·exact qV _ (qV _ (qV _ (qV _ k)))
 ·rcases qC.1 a with k|k
  ·exact qA _ k
  ·rcases qC.1 k with k|k
   ·exact qV _ (qA _ k)
   ·exact qV _ (qV _ (qA _ k))
theorem zt.zM{G:List Nat}{w w':World}{base:Nat}{v:Value}{M:List jd}(h:zt G w w')(a:j8 w base v M)(k:∀b∈jA v,b∈G):j8 w' base v M:=by
 refine⟨a.1, ?_⟩;rcases a.2 with f|⟨g,c,d,e,i,j,r⟩
 ·exact qX f
 ·exact qY ⟨g,c,d,e,i,(h.block g (k g (jq.2 (by rw[e];rfl)))).trans j,r⟩
structure ua(At:jK)(w0:World)(gd:Nat)(w:World)(E N:List Nat)(D:zr)(Ls:List (List zn))(v:Value)(wr:World):Prop where
 ds:DS At w0 gd D (N++E) wr
 kept:zt E w wr
 new:∀b∈N,w.heap.size<=b
 base:w0.heap.size<=w.heap.size
 xR:∀b∈E,b<w.heap.size
 rows:∃L,j8 wr w.heap.size v L/\els L=Ls/\(∀b∈jA v,b∈N)/\∀x∈L,jC wr w.heap.size x.v x.l/\∀b∈jA x.v,b∈N
theorem ua.shape{a:List (List zn)}{v:Value}(h:ua At w0 gd w E N D a v W):∃A n c,n=a.length/\v = .slice A n c:=by
 obtain⟨L,b,d,-⟩:=h.rows;obtain⟨A,c,rfl,-⟩:=v8 b;exact⟨A,_,c,by rw[<-d,lX],rfl⟩
theorem ua.lists{a:List (List zn)}{v:Value}(h:ua At w0 gd w E N D a v W):∃L,oN W v L/\els L=a:=by
 obtain⟨L,b,c,g,d⟩:=h.rows;exact⟨L,j8.qw b (fun x f=>jC.qw (d x f).1),c⟩
theorem ua.one(api:jY At){A:Option Addr}{n c:Nat}{l:List zn}(h:DS At w0 gd D E w)(a:Below w.heap.size w W)(g:jC W w.heap.size (.slice A n c) l):
  ua At w0 gd w E (W.heap.size::jA (.slice A n c)) D [l] (.slice (some ⟨W.heap.size,0,none⟩) 1 1) (W.alloc (.cells #[.slice A n c] 112)):=by
 have i:=(Below.refl W.heap.size W).alloc (qZ _) (.cells #[.slice A n c] 112);have d:=a.alloc (B:=w.heap.size) a.size (.cells #[.slice A n c] 112);have j:W.heap.size<(W.alloc (.cells #[.slice A n c] 112)).heap.size:=by simp
 have f:=lW g;refine⟨h.more api d (fun b a=>?_),zt.qm d h.lt,fun b a=>?_,h.kept.size,h.lt,[⟨.slice A n c,l⟩],World.ownsRow_lit (base:=w.heap.size) (e:=112) (size:=1) W #[.slice A n c] 1 a.size (by unfold maxLen;omega) rfl,rfl,fun b a=>?_,fun x m=>?_⟩
 ·rcases qL.1 a with e|k
  ·rw[e];exact⟨by have:=Below.size ‹Below w.heap.size w W›;omega,j⟩
  ·have:=f b k;exact⟨this.1,by omega⟩
 ·rcases qL.1 a with e|k
  ·rw[e];exact Below.size ‹Below w.heap.size w W›
  ·exact(f b k).1
 ·have e:b=W.heap.size:=by simpa[jA,Value.ownBlock] using a
  rw[e];exact qB
 ·obtain rfl:=qE.1 m;exact⟨g.below i (qZ _),fun b a=>qF _ a⟩
theorem ua.told{g:List (List zn)}{v u:Value}{l:List zn}(h:ua At w0 gd w E N D g v W)(o:DS At w0 gd D' (jA u++(N++E)) w')(d:zt (N++E) W w')(j:jC w' W.heap.size u l):
  ua At w0 gd w E (jA u++N) D' g v w'/\jC w' w.heap.size u l:=by
 obtain⟨L,m,n,i,c⟩:=h.rows;have q:=h.kept.size;have p:=lW j;refine⟨⟨o.less (fun b a=>?_),h.kept.trans (d.less (fun b a=>qV _ a)),fun b a=>?_,h.base,h.xR,L,d.zM m (fun b a=>qA _ (i b a)),n,fun b a=>qV _ (i b a),fun x f=>⟨d.row (c x f).1 (fun b a=>qA _ ((c x f).2 b a)),fun b a=>qV _ ((c x f).2 b a)⟩⟩,j.down q⟩
 ·rw[qd]at a;exact a
 ·rcases qC.1 a with k|k
  ·have:=(p b k).1;omega
  ·exact h.new b k
theorem ua.add(api:jY At){s:List (List zn)}{A d:Option Addr}{n c g f:Nat}{l:List zn}(h:ua At w0 gd w E N D s (.slice A n c) W)(Z:jC W w.heap.size (.slice d g f) l)(z:∀b∈jA (.slice d g f),b∈N)(hn:s.length<=500000)(R:TypeId):
  ∃i j w' T,(Builtin.append_ #[159,159] R #[.slice A n c,.slice (some ⟨W.heap.size,0,none⟩) 1 1]).run prog (W.alloc (.cells #[.slice d g f] 112)) = .ok (.slice i (n+1) j) w'/\ua At w0 gd w E T D (s++[l]) (.slice i (n+1) j) w':=by
 obtain⟨L,I,J,m,K⟩:=h.rows;have v:=(Below.refl W.heap.size W).alloc (qZ _) (.cells #[.slice d g f] 112)
 have p:L.length=n:=by
  obtain⟨A2,c2,e,-⟩:=v8 I;exact(Value.slice.inj e).2.1.symm
 have C:=j8.alloc I (.cells #[.slice d g f] 112);have hz:=h.kept.size;have aa:w.heap.size<=(W.alloc (.cells #[.slice d g f] 112)).heap.size:=by simp;omega
 obtain⟨i,j,w',G,o,t,H⟩:=Z6 (M:=[⟨.slice d g f,l⟩]) C (Cy W ⟨.slice d g f,l⟩) (fun u z=>by
  obtain rfl:u = .slice d g f:=by simpa[bZ] using z
  rfl) (by rw[p,<-p,<-lX,J];simp;omega) aa R
 rw[p]at G o H;have O:ze (jA (.slice A n c)) W w':=((ze.qm v).more (fun x B=>by cases B)).grown t (fun k V=>qX (jq.2 V))
 have Q:∀b∈jA (.slice i (n+1) j),b∈jA (.slice A n c)∨(W.heap.size<=b/\b<w'.heap.size):=fun b a=>by
  have y:=jq.1 a;rcases H with e|e
  ·exact qX (jq.2 (by rw[<-e];exact y))
  ·have X:=(o.lt b y).2;refine qY ⟨?_,X⟩;have F:(Value.slice i (n+1) j).ownBlock=some (W.alloc (.cells #[.slice d g f] 112)).heap.size:=e;rw[y]at F;obtain rfl:=qv F;simp
 have P:∀b∈E,b ∉ jA (.slice A n c)/\b<W.heap.size:=fun b a=>⟨fun Y=>(by have:=h.new b (m b Y);have:=h.xR b a;omega),h.ds.lt b (qV _ a)⟩
 have U:zt E W w':=zt.xK O (fun b a=>⟨(P b a).2,(P b a).1⟩);refine⟨i,j,w',jA (.slice i (n+1) j)++N,G,⟨h.ds.xX api O (fun b a=>?_) (fun b a=>?_),h.kept.trans U,fun b a=>?_,h.base,h.xR,L++[⟨.slice d g f,l⟩],by rw[<-p]at o ⊢;exact o,by rw[show els (L++[⟨.slice d g f,l⟩])=els L++[l] from by unfold els;rw[List.map_append];rfl,J],fun b a=>qA _ a,fun x B=>?_⟩⟩
 ·exact⟨qA _ (m b a),qR h.base (h.new b (m b a))⟩
 ·rcases qC.1 a with k|k
  ·rcases qC.1 k with k|k
   ·rcases Q b k with q|q
    ·exact qX (qA _ (m b q))
    ·exact qY q
   ·exact qX (qA _ k)
  ·exact qX (qV _ k)
 ·rcases qC.1 a with k|k
  ·rcases Q b k with q|q
   ·exact h.new b (m b q)
   ·omega
  ·exact h.new b k
 ·rcases qC.1 B with k|k
  ·exact⟨jC.zY ((K x k).1.below v (qZ _)) C t,fun b a=>qV _ ((K x k).2 b a)⟩
  ·obtain rfl:=qE.1 k;exact⟨jC.zY (Z.below v (qZ _)) C t,fun b a=>qV _ (z b a)⟩
end
def RW(At:jK)(w0:World)(gd gx r:Nat)(S:IxS)(D:zr)(R:List zn)(m:Nat)(E:List Nat)(w:World)(e:Ending)(w':World):Prop :=
 ∃A c k,k<=m/\e = .returned (.tuple #[.slice A R.length c,.int .i64 0])/\jC w' w.heap.size (.slice A R.length c) R/\jy At w0 gd gx r S { D with count:=D.count+k } (jA (.slice A R.length c)++E) w'/\zt E w w'
def bI(S:IxS):Nat:=S.mem.length+kJ (S.T.map TbS.l)
theorem Vy(q:zn->Bool):∀(T:List TbS),kJ (T.map fun t=>t.l.filter q)<=kJ (T.map TbS.l)
 | []=>qZ _
 | t::T=>by
   rw[List.map_cons,List.map_cons,uc,uc];have:=Vy q T;have:=List.length_filter_le q t.l;omega
theorem Vu{T:List TbS}{t:TbS}(h:t∈T):t.l.length<=kJ (T.map TbS.l):=by
 induction T with
 | nil=>cases h
 | cons x T a =>
   rw[List.map_cons,uc];rcases qL.1 h with rfl|h
   ·omega
   ·have:=a h;omega
section
variable {At:jK}(api:jY At)(nap:jz){w0 w w':World}{gd gx r:Nat}{S:IxS}{D:zr}{E:List Nat}
include api nap
theorem RA(h:jy At w0 gd gx r S D E w)(ok:kX D S)(J:WfP D)(hc:D.count<=1000000000)(V:D.down=false)(Z:bI S<=40000)(x:Nat)(hx:x<18446744073709551616)(a b:Int)(wa:(Lit.int .i64 a).wf=true)(wb:(Lit.int .i64 b).wf=true):
  Calls prog 60 #[ptr gx,.int .u64 (x:Nat),.int .i64 a,.int .i64 b] w (RW At w0 gd gx r S D (v7 S x a b) S.T.length E w):=by
 obtain⟨Fm,Gr,Gk,P,hM,d3,d4,F,d6⟩:=h;obtain⟨gm,A,cp,B,c2,z,f⟩:=hM.cells;obtain⟨c0,-,-,-,-,-,c6,-,c8⟩:=f.cs;have aD:=qQ (p9 c0);have bb:=bounds_i64 wb;have aM:(if (1073741824:Int)<b then 1073741824 else b)=j7 b:=by unfold j7;split<;>omega
 have aa:=Cj f.mem.has (by unfold bI at Z;omega) x a (j7 b);have ac:=qQ (fun(N:List Nat) (D':zr) (W:World) (V:DS At w0 gd D' (N++(Fm++(Gr++(Gk++E)))) W) (d:zt (Fm++(Gr++(Gk++E))) w W) (hN:∀b∈N,w.heap.size<=b)=>jy.back hM P d3 d4 F d6 V d hN);have Q:∀b∈Gk,b∈Fm++(Gr++(Gk++E)):=fun b c=>qV _ (qV _ (qA _ c))
 have U:∀b∈Gr,b∈Fm++(Gr++(Gk++E)):=fun b c=>qV _ (qA _ c)
 have ab:∀b∈E,b∈Fm++(Gr++(Gk++E)):=fun b c=>qV _ (qV _ (qV _ c))
 have aj:z.length=S.T.length:=f.xW.1;obtain⟨n,af⟩:∃n,Fm++(Gr++(Gk++E))=n:=⟨_,rfl⟩
 rw[af]at P ac Q U ab;have al:=qQ P
 have HT:=qQ (fun(i g:Nat) (t:TbS) (q:z[i]? = some g) (y:S.T[i]? = some t) (k:Nat) (d:k<=40) (W:World) (N:List Nat) (hW:DS At w0 gd { D with count:=D.count+k } (N++n) W) (aC:zt n w W)=>(show Calls prog 107 #[ptr g,.int .u64 (x:Nat),.int .i64 a,.int .i64 b] W fun e w'=>∃j,j<=1/\mo At w0 gd (kZ t.l x a (j7 b)) 0 { D with count:=D.count+k+j } (N++n) W e w' from by
  obtain⟨H,I,s⟩:=f.xW.2 i g t q y;have Y:=qO y;have aK:=Vu Y;have hn:=(ok.xz Y).1;refine(LQ api nap hW (I.keep aC (fun b c=>Q b (s b c))) (fun b c=>qV _ (Q b (s b c))) ⟨J.synced,J.used,J.cap,J.many⟩ (by show D.count+k<=_;omega) (WalkArith.wf_i64 (by omega)) V ((ok.has t Y).count _) (ok.keep t Y) (by unfold bI at Z;omega) x hx a b wa wb).mono ?_;rintro e w'⟨j,hj,-,G⟩;exact⟨j,hj,G⟩))
 have HP:=qQ (fun(W:World) (d:zt n w W) (i g:Nat) (q:z[i]? = some g)=>(show ∃C,B=some ⟨C,0,none⟩/\W.cell? ⟨C,i,none⟩=some (ptr g) from by
  obtain⟨B',aH,e,-,-,az⟩:=yL.form (d.xH f.row (fun b c=>U b (f.xl b c)));obtain⟨rfl,-,-⟩:=Value.slice.inj e;obtain⟨C,e1,-,-,e2⟩:=az i g q;exact⟨C,e1,e2⟩))
 have ad:=qQ (fun(W:World) (d:zt n w W)=>(show W.cell? ⟨gx,6,none⟩=some (.slice B z.length c2) from(d.qp f.qp (U gx f.own)).cell 6));have aF:=qQ aj;have ay:=ok.xG;have HR:Hid (v7 S x a b=bx ((kZ S.mem x a (j7 b))::S.T.map fun t=>kZ t.l x a (j7 b))):=qQ rfl
 have aw:=qQ (show kJ ((kZ S.mem x a (j7 b))::S.T.map fun t=>kZ t.l x a (j7 b))<=40000 from by
  rw[uc];have:=Vy (inQ x a (j7 b)) S.T;have:=List.length_filter_le (inQ x a (j7 b)) S.mem;unfold bI at Z;unfold kZ;omega)
 have am:=qQ ab;obtain⟨m,hm⟩:∃m,m=z.length:=⟨_,rfl⟩
 have aL:m<=40:=by omega
 have HM:=qQ hm;have X:S.T.length=m:=by omega
 have aE:=qQ X;rw[<-hm]at c6 ad;rw[X];generalize hF0:kZ S.mem x a (j7 b)=o at*;unfold fZ at aa;have ar:=qQ aa
 have av:Hid (∀k t,S.T[k]? = some t->(o::(S.T.take k).map fun t=>kZ t.l x a (j7 b))++[kZ t.l x a (j7 b)]=o::(S.T.take (k+1)).map fun t=>kZ t.l x a (j7 b)):=qQ fun k t d=>by
  rw[List.take_add_one,d,List.map_append];rfl
 have ak:Hid ((o::(S.T.take m).map fun t=>kZ t.l x a (j7 b))=o::S.T.map fun t=>kZ t.l x a (j7 b)):=qQ (by rw[<-X,List.take_length])
 have ae:Hid (∀k,k<=m->(o::(S.T.take k).map fun t=>kZ t.l x a (j7 b)).length=k+1):=qQ fun k d=>by
  rw[qk,qj,qq];omega
 have ao:Hid (∀k,k<m->∃g t,z[k]? = some g/\S.T[k]? = some t):=qQ fun k d=>⟨_,_,qD (by omega),qD (by omega)⟩
 have aq:=qQ (show(o::S.T.map fun t=>kZ t.l x a (j7 b)).length<=500000 from by rw[qk,qj];omega);clear hM f P d3 d4 F d6 ok J hc V Z wa wb Q U ab aj ay hm X af aa c0 hF0;generalize v7 S x a b=R at*;go_enter func60,ntmps60;go_wp2_with fail;refine aD.out.mono ?_;rintro e w'⟨rfl,rfl⟩;go_wp2_with fail;refine ar.out.mono ?_;rintro e w1⟨A1,c1,rfl,r1,b1⟩;have H1:=qQ (ua.one api al.out b1 r1);have aG:=ad.out _ H1.out.kept;clear c6 c8 b1 r1;go_wp2;go_loopg [10,32] m (fun g u i wr=>∃(k:Nat) (N:List Nat) (j:Nat),k+g=m/\j<=k/\i = .int .i64 k/\ua At w0 gd w n N { D with count:=D.count+j } (o::(S.T.take k).map fun t=>kZ t.l x a (j7 b)) u wr)
 case atStart=>exact⟨0,_,0,by omega,qZ _,rfl,H1.out⟩
 case round =>
  obtain⟨k,N,j,aJ,aA,rfl,G⟩:=hrel;obtain⟨Ak,nk,ck,ai,rfl⟩:=G.shape;have ag:k<=m:=by omega
  rw[ae.out k ag]at ai;subst ai;have v:=qQ G;clear G;cases gk with
  | zero =>
    obtain rfl:k=m:=(by omega);have s1:¬(k:Int)<(k:Int):=(by omega);have K:=v.out;rw[ak.out]at K;obtain⟨L,I,s⟩:=K.lists;have M:=Cs _ L wr I (by rw[<-lX,s];exact aq.out) (by rw[s];have:=aw.out;omega);rw[s,<-HR.out]at M;unfold fZ at M;have HG:=qQ M;have p:=qQ K;clear M K I s v;go_wp2_with fail;refine HG.out.mono ?_;rintro e w9⟨A9,c9,rfl,r9,O⟩;have an:=qQ (ac.out (jA (.slice A9 R.length c9)) { D with count:=D.count+j } w9 ((p.out.ds.less (fun b c=>qV _ c)).more api O (lW r9)) (p.out.kept.trans (zt.qm O (fun b c=>p.out.ds.lt b (qV _ c)))) (fun b c=>qR p.out.kept.size (lW r9 b c).1));have au:=qQ (r9.down p.out.kept.size);have ap:=qQ ((p.out.kept.trans (zt.qm O (fun b c=>p.out.ds.lt b (qV _ c)))).less am.out);clear r9 O;go_wp2;go_ret2;exact⟨A9,c9,j,aA,rfl,au.out,an.out,ap.out⟩
  | succ gi =>
    have aB:k<m:=(by omega);have s1:(k:Int)<(m:Int):=(by omega);obtain⟨g,t,q,y⟩:=ao.out k aB;obtain⟨C,rfl,I⟩:=HP.out wr v.out.kept k g q;have ax:=qQ (HT.out k g t q y j (by omega) wr N v.out.ds v.out.kept);have HG:=qQ y;clear q y;go_wp2_with fail;refine ax.out.mono ?_;rintro e w5⟨j2,aI,A5,c5,rfl,r5,F,k5⟩;obtain⟨L5,r6⟩:=v.out.told F k5 r5;have ah:(o::(S.T.take k).map fun t=>kZ t.l x a (j7 b)).length<=500000:=(by rw[ae.out k ag];omega);obtain⟨A6,c6,w6,N6,e6,L6⟩:=L5.add api r6 (fun b c=>qA _ c) ah 159;rw[av.out k t HG.out,Nat.add_assoc]at L6;have HE:=qQ e6;have H6:=qQ L6;clear L5 r6 ah e6 L6 r5 F k5;go_wp2_with (first | (at_builtin;refine yc rfl _ _ rfl rfl rfl HE.out ?_) | fail);go_roundg gi
    case measure=>omega
    case rel=>exact⟨k+1,N6,j+j2,by omega,by omega,by go_num,H6.out⟩
end
def RB(At:jK)(w0:World)(gd gx r:Nat)(S:IxS)(D:zr)(x:Nat)(b:Int)(m:Nat)(E:List Nat)(w:World)(e:Ending)(w':World):Prop :=
 ∃(z:Int) (k:Nat),k<=m/\yI (cZ S) x b z/\e = .returned (.tuple #[.int .i64 z,.int .i64 0])/\jy At w0 gd gx r S { D with count:=D.count+k } E w'/\zt E w w'
theorem Vg{l:List zn}(a:∀x∈l,vP x)(h:Nat)(b:Int):-9223372036854775808<=(kt l h b).v/\(kt l h b).v<=9223372036854775807:=by
 unfold kt;cases c:bS l h b with
 | none=>exact⟨by decide,by decide⟩
 | some y =>
   have d:y∈l.filter (upQ h b):=List.mem_of_getLast? c;obtain⟨f,g,i,j,k⟩:=a y (List.mem_filter.1 d).1;exact⟨by show _<=y.v;omega,by show y.v<=_;omega⟩
section
variable {At:jK}(api:jY At)(nap:jz){w0 w w':World}{gd gx r:Nat}{S:IxS}{D:zr}{E:List Nat}
include api nap
theorem RC(h:jy At w0 gd gx r S D E w)(ok:kX D S)(O:WfP D)(hc:D.count<=1000000000)(hd:D.down=false)(ht:bI S<=40000)(x:Nat)(hx:x<18446744073709551616)(b:Int)(wb:(Lit.int .i64 b).wf=true):
  Calls prog 86 #[ptr gx,.int .u64 (x:Nat),.int .i64 b] w (RB At w0 gd gx r S D x (j7 b) S.T.length E w):=by
 obtain⟨Fm,Gr,Gk,U,hM,d3,d4,I,d6⟩:=h;obtain⟨gm,A,cp,B,c2,J,n⟩:=hM.cells;obtain⟨c0,-,-,-,-,-,c6,-,c8⟩:=n.cs;have aX:=qQ (p9 c0);have bb:=bounds_i64 wb;have a9:(if (1073741824:Int)<b then 1073741824 else b)=j7 b:=by unfold j7;split<;>omega
 have a_:min b 1073741824=j7 b:=rfl;have ad:=Ck n.mem.has (by unfold bI at ht;omega) x (j7 b);have ah:=qQ (fun(D':zr) (W:World) (hd:DS At w0 gd D' (Fm++(Gr++(Gk++E))) W) (d:zt (Fm++(Gr++(Gk++E))) w W)=>jy.back (N:=[]) hM U d3 d4 I d6 hd d (fun b a=>by cases a));have Y:∀b∈Gk,b∈Fm++(Gr++(Gk++E)):=fun b a=>qV _ (qV _ (qA _ a))
 have Z:∀b∈Gr,b∈Fm++(Gr++(Gk++E)):=fun b a=>qV _ (qA _ a)
 have af:∀b∈E,b∈Fm++(Gr++(Gk++E)):=fun b a=>qV _ (qV _ (qV _ a))
 have aY:J.length=S.T.length:=n.xW.1;have aA:=qQ (Vg ok.ok x (j7 b));have aM:=qQ (V8 ok.qo ok.mayE x (j7 b))
 have aN:Hid (∀(k:Nat) (t:TbS) (z:Int),S.T[k]? = some t->yI (fun y=>y∈S.mem∨∃t∈S.T.take k,y∈t.l) x (j7 b) z->yI (fun y=>y∈S.mem∨∃t∈S.T.take (k+1),y∈t.l) x (j7 b) (max z (if vZ t.l x (j7 b)=true then(kt t.l x (j7 b)).v else -1))):=qQ fun k t z d M=>by
  have F:=qO d;refine(M.both (V8 (ok.has t F).props.1 (ok.has t F).props.2.1 x (j7 b))).congr fun y=>?_
  rw[List.take_add_one,d];constructor
  ·rintro ((q|⟨u,s,X⟩)|q)
   ·exact qX q
   ·exact qY ⟨u,qA _ s,X⟩
   ·exact qY ⟨t,qV _ (by simp),q⟩
  ·rintro (q|⟨u,s,X⟩)
   ·exact qX (qX q)
   ·rcases qC.1 s with s|s
    ·exact qX (qY ⟨u,s,X⟩)
    ·obtain rfl:u=t:=(by simpa using s);exact qY X
 have an:Hid (∀z,yI (fun y=>y∈S.mem∨∃t∈S.T.take S.T.length,y∈t.l) x (j7 b) z->yI (cZ S) x (j7 b) z):=qQ fun z M=>M.congr fun y=>by rw[List.take_length];rfl
 have aC:=qQ (fun(t:TbS) (F:t∈S.T)=>Vg (ok.has t F).props.2.2 x (j7 b));obtain⟨f,au⟩:∃f,Fm++(Gr++(Gk++E))=f:=⟨_,rfl⟩
 rw[au]at U ah Y Z af;have aj:=qQ U
 have HT:=qQ (fun(i g:Nat) (t:TbS) (C:J[i]? = some g) (G:S.T[i]? = some t) (k:Nat) (d:k<=40) (W:World) (hW:DS At w0 gd { D with count:=D.count+k } f W) (aU:zt f w W)=>(show Calls prog 139 #[ptr g,.int .u64 (x:Nat),.int .i64 b] W fun e w'=>∃j,j<=1/\yJ At w0 gd (.tuple #[ji (kt t.l x (j7 b)),.bool (vZ t.l x (j7 b)),.int .i64 0]) { D with count:=D.count+k+j } f W e w' from by
  obtain⟨H,q1,q2⟩:=n.xW.2 i g t C G;have aa:=qO G;have a7:=Vu aa;have hn:=(ok.xz aa).1;refine(LZ api nap hW (q1.keep aU (fun b a=>Y b (q2 b a))) (fun b a=>Y b (q2 b a)) ⟨O.synced,O.used,O.cap,O.many⟩ (by show D.count+k<=_;omega) (WalkArith.wf_i64 (by omega)) hd ((ok.has t aa).count _) (ok.keep t aa) (by unfold bI at ht;omega) x hx b wb).mono ?_;rintro e w'⟨j,hj,-,hL⟩;exact⟨j,hj,hL⟩))
 have HP:=qQ (fun(W:World) (d:zt f w W) (i g:Nat) (C:J[i]? = some g)=>(show ∃L,B=some ⟨L,0,none⟩/\W.cell? ⟨L,i,none⟩=some (ptr g) from by
  obtain⟨B',a2,e,-,-,aR⟩:=yL.form (d.xH n.row (fun b a=>Z b (n.xl b a)));obtain⟨rfl,-,-⟩:=Value.slice.inj e;obtain⟨L,e1,-,-,e2⟩:=aR i g C;exact⟨L,e1,e2⟩))
 have ai:=qQ (fun(W:World) (d:zt f w W)=>(show W.cell? ⟨gx,6,none⟩=some (.slice B J.length c2) from(d.qp n.qp (Z gx n.own)).cell 6));have aQ:=ok.xG;have aE:=qQ af;obtain⟨m,F⟩:∃m,m=J.length:=⟨_,rfl⟩
 have a8:m<=40:=by omega
 have ag:S.T.length=m:=by omega
 rw[<-F]at c6 ai;rw[ag]at an ⊢;have a1:Hid (S.T.length=m):=qQ ag;have aG:Hid (∀k,k<m->∃g t,J[k]? = some g/\S.T[k]? = some t):=qQ fun k d=>⟨_,_,qD (by omega),qD (by omega)⟩
 have aJ:Hid (∀z,yI (· ∈ S.mem) x (j7 b) z->yI (fun y=>y∈S.mem∨∃t∈S.T.take 0,y∈t.l) x (j7 b) z):=qQ fun z M=>M.congr fun y=>by simp
 unfold Z5 at ad;generalize kt S.mem x (j7 b)=le at*;generalize vZ S.mem x (j7 b)=lo at*;obtain⟨lh,lv,lp⟩:=le;have aK:=qQ ad;clear hM n U d3 d4 I d6 ok O hc hd ht wb Y Z af aY aQ F ag au ad c0;generalize a3:j7 b=R at*;go_enter func86,ntmps86;go_wp2_with fail;refine aX.out.mono ?_;rintro e w'⟨rfl,rfl⟩;go_wp2_with fail;refine aK.out.mono ?_;rintro e w1⟨rfl,b1⟩;have K1:=zt.qm b1 aj.out.lt;have D1:=aj.out.below api b1;have hA:=(Below.refl w1.heap.size w1).alloc (qZ _) (.cells #[.int .u64 (lh:Nat),.int .i64 lv,.int .i64 lp] 117);have Q:=K1.trans (zt.qm hA D1.lt);have D2:=D1.below api hA;have EA:=za.new w1 117 #[.int .u64 (lh:Nat),.int .i64 lv,.int .i64 lp];obtain⟨w2,aZ⟩:∃w2,w1.alloc (.cells #[.int .u64 (lh:Nat),.int .i64 lv,.int .i64 lp] 117)=w2:=⟨_,rfl⟩
 rw[aZ]at Q D2 EA;have aD:=qQ D2;have aH:=qQ Q;have q6:=ai.out _ Q;have ev:=EA.cell 1;clear b1 K1 D1 hA Q D2 EA c6 c8;have aV:=aA.out;have ap:Hid (∃P:Int,P=(if lo=true then lv else -1)/\-9223372036854775808<=P/\P<=9223372036854775807/\yI (fun y=>y∈S.mem∨∃t∈S.T.take 0,y∈t.l) x R P):=qQ ⟨_,rfl,by split<;>omega,by split<;>omega,aJ.out _ aM.out⟩;clear aV;cases lo
 all_goals
  obtain⟨P,ay,ab,ac,o⟩:=ap.out;simp only[if_true,Bool.false_eq_true,if_false]at ay;subst ay;have aP:=qQ o;have ar:=qQ (qU ab ac);clear ab ac o ap;go_wp2;go_loopg [8,37] m (fun g u i wr=>∃(k j:Nat) (z:Int),k+g=m/\j<=k/\i = .int .i64 k/\u = .int .i64 z/\-9223372036854775808<=z/\z<=9223372036854775807/\yI (fun y=>y∈S.mem∨∃t∈S.T.take k,y∈t.l) x R z/\DS At w0 gd { D with count:=D.count+j } f wr/\zt f w wr)
  case atStart=>exact⟨0,0,_,by omega,qZ _,rfl,rfl,ar.out.1,ar.out.2,aP.out,aD.out,aH.out⟩
  case round =>
   obtain⟨k,j,z,a5,aS,rfl,rfl,ab,ac,o,av,aw⟩:=hrel;have a6:k<=m:=(by omega);have al:=qQ av;have K:=qQ aw;have HZ:=qQ o;clear av aw o;cases gk with
   | zero =>
     obtain rfl:k=m:=(by omega);have s1:¬(k:Int)<(k:Int):=(by omega);have aF:=qQ (ah.out { D with count:=D.count+j } wr al.out K.out);have aO:=qQ (an.out z HZ.out);have aI:=qQ (K.out.less aE.out);go_wp2;go_ret2;exact⟨z,j,aS,aO.out,rfl,aF.out,aI.out⟩
   | succ gi =>
     have aT:k<m:=(by omega);have s1:(k:Int)<(m:Int):=(by omega);obtain⟨g,t,C,G⟩:=aG.out k aT;obtain⟨L,rfl,q1⟩:=HP.out wr K.out k g C;have ao:=HT.out k g t C G j (by omega) wr al.out K.out;have p:=aN.out k t z G HZ.out;have aB:=aC.out t (qO G);clear C G;generalize kt t.l x R=te at*;generalize vZ t.l x R=tq at*;obtain⟨th,c,tp⟩:=te;simp only at aB;have aL:=qQ ao;clear ao;go_wp2_with fail;refine aL.out.mono ?_;rintro e w5⟨j2,a4,rfl,I,k5⟩;have k6:=K.out.trans k5;have hB:=(Below.refl w5.heap.size w5).alloc (qZ _) (.cells #[.int .u64 (th:Nat),.int .i64 c,.int .i64 tp] 117);have k7:=k6.trans (zt.qm hB I.lt);have V:=I.below api hB;have EB:=za.new w5 117 #[.int .u64 (th:Nat),.int .i64 c,.int .i64 tp];obtain⟨w6,a0⟩:∃w6,w5.alloc (.cells #[.int .u64 (th:Nat),.int .i64 c,.int .i64 tp] 117)=w6:=⟨_,rfl⟩
     rw[a0]at k7 V EB;rw[Nat.add_assoc]at V;have et:=EB.cell 1;have ak:=qQ V;have am:=qQ k7;clear I k5 k6 hB k7 V EB;have aW:∀ts ty w,(Builtin.max_ ts ty #[.int .i64 z,.int .i64 c]).run prog w = .ok (.int .i64 (max z c)) w:=fun ts ty w=>by rw[run_max_int2,show(if z<c then(c:Int) else z)=max z c by split<;>omega]
     cases tq
     ·have ax:max z (-1)=z:=Int.max_eq_left HZ.out.2.2;simp only[Bool.false_eq_true,if_false]at p;rw[ax]at p;have ae:=qQ p;clear p ax aW;go_wp2;go_roundg gi
      case measure=>omega
      case rel=>exact⟨k+1,j+j2,z,by omega,by omega,by go_num,rfl,ab,ac,ae.out,ak.out,am.out⟩
     ·simp only[if_true]at p;have ae:=qQ p;have o:-9223372036854775808<=max z c:=(by omega);have az:max z c<=9223372036854775807:=(by omega);have aq:=qQ (qU o az);clear p o az;go_wp2;go_roundg gi
      case measure=>omega
      case rel=>exact⟨k+1,j+j2,max z c,by omega,by omega,by go_num,rfl,aq.out.1,aq.out.2,ae.out,ak.out,am.out⟩
end
end
end Go.Proofs.YthejglbnkmimjaaGreat
