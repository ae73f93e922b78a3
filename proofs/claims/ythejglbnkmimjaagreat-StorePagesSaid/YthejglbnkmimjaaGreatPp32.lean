import Derived.Test.YthejglbnkmimjaaGreatPp31
set_option linter.unusedVariables false
set_option maxRecDepth 100000
set_option maxHeartbeats 9000000
namespace Go.Proofs.YthejglbnkmimjaaGreat
open Proofs.Tryz
section
open Go.RowKit Go.Shelf
theorem Qo(D:jL)(k:Nat)(n:Tw)(a:D.down=false):(rdW { D with count:=k } n).1=(rdW D n).1/\(rdW { D with count:=k } n).2.1=(rdW D n).2.1/\∃j,j<=1/\(rdW { D with count:=k } n).2.2={ D with count:=k+j }:=by
 cases h:jT D.l n with
 | none =>
   rw[mi (D:=D) a h,mi (D:={ D with count:=k }) a h];exact⟨rfl,rfl,0,by omega,rfl⟩
 | some f =>
   rw[lu (D:=D) a h,lu (D:={ D with count:=k }) a h];exact⟨rfl,rfl,1,by omega,rfl⟩
theorem KW(D:jL)(k:Nat)(n:Int)(a:D.down=false):kS { D with count:=k } n=kS D n/\∃j,j<=2/\uI { D with count:=k } n={ D with count:=k+j }:=by
 obtain⟨b,f,j,p,g⟩:=Qo D k (ptT n) a;have l:¬D.down=true:=by rw[a];decide
 refine⟨?_, ?_⟩
 ·unfold kS;rw[b,f]
 ·unfold uI;rw[qZ l,f,b,g];split
  ·exact⟨j,by omega,rfl⟩
  ·split
   ·exact⟨j,by omega,rfl⟩
   ·obtain⟨-,-,o,q,i⟩:=Qo D (k+j) (ptB n) a;rw[i];exact⟨j+o,by omega,by rw[Nat.add_assoc]⟩
theorem qKp{D:jL}{n:Int}(a:D.down=false)(h:kS D n=0):vo D n (tgL (rdW D (ptT n)).1):=by
 unfold kS at h;rw[qZ (by rw[a];decide)]at h;cases b:jT D.l (ptT n) with
 | none =>
   rw[mi a b]at h;simp at h
 | some f =>
   rw[lu a b]at h ⊢;simp at h;exact⟨f,b,h,rfl⟩
theorem vE.low{w:World}{base base' g:Nat}{F:List Nat}{l:List jI}(h:vE w base g F l)(b:base'<=base):vE w base' g F l:=by
 obtain⟨v,i,j,k,o,a,p,q⟩:=h;exact⟨v,i,j.down b,k,o,fun x f=>⟨qR b (a x f).1,(a x f).2⟩,p,q⟩
structure pW(At:j6)(w0:World)(gd gx r gm:Nat)(m:ji)(lv tv:Value)(ps:List Nat)(T:List TbS)(Gk:List Nat)(D:jL)(E:List Nat)(w:World):Prop where
 ds:DS At w0 gd D ([gm]++((gx::jS tv)++(Gk++E))) w
 xW:jN w gx 111 #[.pointer none,ptr gd,m.next,m.check,.int .u64 (m.seed:Nat),lv,tv,.float .f64 r,mtp gm]
 lv:gz w lv m.lv Gk
 row:yK w w0.1.size tv ps
 xO:uy w gd ps T Gk
 mem:vE w w0.1.size gm [gm] []
 xo:gm ∉ gx::jS tv/\gm ∉ Gk/\gm ∉ E
 gr:∀b∈gx::jS tv,b ∉ Gk/\b ∉ E
 gk:∀b∈Gk,b ∉ E
 low:w0.1.size<=gx
section
variable {At:j6}{w0 w w5 W:World}{gd gx r gm gt:Nat}{m:ji}{lv tv:Value}{ps H:List Nat}{T:List TbS}{Gk:List Nat}{D D':jL}{E E':List Nat}{t:TbS}
theorem pW.made(api:j8 At)(h:pW At w0 gd gx r gm m lv tv ps T Gk D E w):js At w0 gd gx r ⟨m,T,[]⟩ D E (w.setCell ⟨gx,0,none⟩ (ptr gx))/\jM E w (w.setCell ⟨gx,0,none⟩ (ptr gx)):=by
 have i:jP [gx] w (w.setCell ⟨gx,0,none⟩ (ptr gx)):=(jP.refl [gx] w).setCell (p:=⟨gx,0,none⟩) (qX (qH.2 rfl)) _;have g:=h.ds.lt
 have l:∀b∈[gm]++(jS tv++(Gk++E)),b<w.1.size/\b ∉ [gx]:=fun b a=>by
  rcases qD.1 a with q|q
  ·refine⟨g b (qW _ q),fun f=>h.xo.1 ?_⟩;rw[<-qH.1 q,qH.1 f];exact qC
  ·rcases qD.1 q with q|q
   ·refine⟨g b (qJ _ (qW _ (qF _ q))),fun f=>?_⟩;exact vO h.row h.xW (by decide) (by rw[qH.1 f]at q;exact ja.1 q)
   ·rcases qD.1 q with q|q
    ·exact⟨g b (qJ _ (qJ _ (qW _ q))),fun f=>(h.gr gx qC).1 (by rw[<-qH.1 f];exact q)⟩
    ·exact⟨g b (qJ _ (qJ _ (qJ _ q))),fun f=>(h.gr gx qC).2 (by rw[<-qH.1 f];exact q)⟩
 have k:=jM.xP i l;refine⟨⟨[gm],gx::jS tv,Gk,h.ds.zE api i (fun b a=>by rw[qH.1 a];exact⟨qJ _ (qW _ qC),h.low⟩),⟨gm,lv,tv,ps,h.xW.put 0 (ptr gx),h.lv.step (k.less (fun b a=>qJ _ (qJ _ (qW _ a)))),k.xf h.row (fun b a=>qJ _ (qW _ a)),h.xO.keep k (fun b a=>qJ _ (qJ _ (qW _ a))),h.mem.keep k (fun b a=>qW _ a),qC,fun b a=>qF _ a,h.low⟩,fun b a=>by rw[qH.1 a];exact h.xo,h.gr,h.gk,fun b a=>?_⟩,k.less (fun b a=>qJ _ (qJ _ (qJ _ a)))⟩;rcases qD.1 a with q|q
 ·obtain⟨v,o,s,u,y,j,z,B⟩:=h.mem;exact(j b q).1
 ·rcases qM.1 q with e|q
  ·rw[e];exact h.low
  ·exact(h.row.lt b (ja.1 q)).1
theorem pW.next(api:j8 At)(h:pW At w0 gd gx r gm m lv tv ps T Gk D E w)(B:DS At w0 gd D' (H++([gm]++((gx::jS tv)++(Gk++E)))) w5)(o:jM ([gm]++((gx::jS tv)++(Gk++E))) w w5)(u:∀b∈H,w.1.size<=b)(X:yS w5 gt gd t.n t.l t.t H)(U:ps.length<=10000)(N:TypeId):
  ∃A n c g i j,tv=.slice A n c/\(Builtin.append_ #[108,108] N #[tv,.slice (some ⟨w5.1.size,0,none⟩) 1 1]).run prog (w5.alloc (.cells #[ptr gt] 160))=.ok (.slice g (n+1) i) j /\
   j.cell? ⟨gx,6,none⟩=some tv/\j.frozen? ⟨gx,6,none⟩=false/\pW At w0 gd gx r gm m lv (.slice g (n+1) i) (ps++[gt]) (T++[t]) (H++Gk) D' E (j.setCell ⟨gx,6,none⟩ (.slice g (n+1) i))/\jM E w (j.setCell ⟨gx,6,none⟩ (.slice g (n+1) i)):=by
 have k:=h.ds.lt;have v:=B.lt;have ac:=o.size;have F:=o.xW h.xW (qJ _ (qW _ qC));have C:=o.xf h.row (fun b a=>qJ _ (qW _ (qF _ a)));obtain⟨A,c,Y,-,-,-⟩:=vl C;obtain⟨g,i,j,O,I,K,o9⟩:=DA gt N C rfl U B.kept.size;have Q:gx ∉ jS tv:=fun f=>vO C F (by decide) (ja.1 f)
 have s:=F.xC K Q;have V:(Value.slice g (ps.length+1) i).ownBlock≠some gx:=vO I s (by decide);have J:jP (gx::jS tv) w5 (j.setCell ⟨gx,6,none⟩ (.slice g (ps.length+1) i)):=(K.more (fun x Z=>qX (qF _ Z))).setCell (p:=⟨gx,6,none⟩) (qX qC) _;have aa:(j.setCell ⟨gx,6,none⟩ (.slice g (ps.length+1) i)).1.size=j.1.size:=by simp[World.setCell]
 have y:∀b∈gx::jS (.slice g (ps.length+1) i),b∈gx::jS tv∨(w5.1.size<=b/\b<(j.setCell ⟨gx,6,none⟩ (.slice g (ps.length+1) i)).1.size):=fun b a=>by
  rcases qM.1 a with e|q
  ·rw[e];exact qX qC
  ·rcases o9 b q with p|p
   ·exact qX (qF _ p)
   ·rw[aa];exact qY p
 have P:∀b∈[gm]++(H++(Gk++E)),b<w5.1.size/\b ∉ gx::jS tv:=fun b a=>by
  rcases qD.1 a with q|q
  ·exact⟨v b (qJ _ (qW _ q)),fun f=>h.xo.1 (by rw[<-qH.1 q];exact f)⟩
  ·rcases qD.1 q with q|q
   ·refine⟨v b (qW _ q),fun f=>?_⟩;have:=u b q;have:=k b (qJ _ (qW _ f));omega
   ·refine⟨v b (qJ _ (qJ _ (qJ _ q))),fun f=>?_⟩;rcases qD.1 q with q|q
    ·exact(h.gr b f).1 q
    ·exact(h.gr b f).2 q
 have z:=jM.xP J P;have G:jM Gk w (j.setCell ⟨gx,6,none⟩ (.slice g (ps.length+1) i)):=(o.less (fun b a=>qJ _ (qJ _ (qW _ a)))).trans (z.less (fun b a=>qJ _ (qJ _ (qW _ a))));have ab:jM [gm] w (j.setCell ⟨gx,6,none⟩ (.slice g (ps.length+1) i)):=(o.less (fun b a=>qW _ a)).trans (z.less (fun b a=>qW _ a));have kE:jM E w (j.setCell ⟨gx,6,none⟩ (.slice g (ps.length+1) i)):=(o.less (fun b a=>qJ _ (qJ _ (qJ _ a)))).trans (z.less (fun b a=>qJ _ (qJ _ (qJ _ a))));refine⟨A,ps.length,c,g,i,j,Y,O,s.cell 6,s.frozen 6,⟨B.xL api J (fun b a=>⟨qJ _ (qJ _ (qW _ a)), ?_⟩) (fun b a=>?_),s.put 6 _,(h.lv.step G).more (fun b a=>qJ _ a),vz (p:=⟨gx,6,none⟩) I V _,(h.xO.keep G (fun b a=>a)).snoc (X.keep z (fun b a=>qJ _ (qW _ a))),h.mem.keep ab (fun b a=>a),⟨fun f=>?_,fun f=>?_,h.xo.2.2⟩,fun b a=>⟨fun f=>?_,fun f=>?_⟩,fun b a f=>?_,h.low⟩,kE⟩
 ·rcases qM.1 a with e|q
  ·rw[e];exact h.low
  ·exact(h.row.lt b (ja.1 q)).1
 ·rcases qD.1 a with q|q
  ·exact qX (qJ _ (qW _ q))
  ·rcases qD.1 q with q|q
   ·rcases y b q with p|p
    ·exact qX (qJ _ (qJ _ (qW _ p)))
    ·exact qY p
   ·rcases qD.1 q with q|q
    ·rcases qD.1 q with q|q
     ·exact qX (qW _ q)
     ·exact qX (qJ _ (qJ _ (qJ _ (qW _ q))))
    ·exact qX (qJ _ (qJ _ (qJ _ (qJ _ q))))
 ·have:=k gm (qW _ qC);rcases y gm f with p|p
  ·exact h.xo.1 p
  ·omega
 ·have:=k gm (qW _ qC);rcases qD.1 f with p|p
  ·have:=u gm p;omega
  ·exact h.xo.2.1 p
 ·rcases y b a with p|p
  ·have:=k b (qJ _ (qW _ p));rcases qD.1 f with q|q
   ·have:=u b q;omega
   ·exact(h.gr b p).1 q
  ·rcases qD.1 f with q|q
   ·have:=v b (qW _ q);omega
   ·have:=k b (qJ _ (qJ _ (qW _ q)));omega
 ·rcases y b a with p|p
  ·exact(h.gr b p).2 f
  ·have:=k b (qJ _ (qJ _ (qJ _ f)));omega
 ·rcases qD.1 a with q|q
  ·have:=u b q;have:=k b (qJ _ (qJ _ (qJ _ f)));omega
  ·exact h.gk b q f
end
end
section
theorem Qw{D:jL}(h:UpD D)(b:(jt D).Nodup)(n:Tw):∃e E,jh D n=(e,E)/\cO e=true/\UpD E/\kc D E/\j4 E.l<=j4 D.l/\(jt E).Nodup/\(∀k,k∈jt E↔k∈jt D/\k≠n)/\∀k,k≠n->jT E.l k=jT D.l k:=by
 cases g:jT D.l n with
 | none =>
   refine⟨4,D,tA h.down g,rfl,h,kc.refl D,qK _,b,fun k=>⟨fun a=>⟨a,fun e=>?_⟩,fun a=>a.1⟩,fun k _=>rfl⟩;obtain⟨f,p,q⟩:=qP.1 a;exact fi.1 g f p (q.trans e)
 | some f =>
   obtain⟨E,i,u1,c1,v,s,y,z,u⟩:=tC h g;have o:=Cl D n;rw[i]at o
   have j:jt E=(jt D).filter (fun x=>!decide (x=n)):=by
    show E.l.map jO.name=_;rw[s];exact rH n D.l b
   refine⟨0,E,i,rfl,u1,o,by omega,by rw[j];exact List.Pairwise.filter _ b,fun k=>?_,u⟩;rw[j,qo];simp
structure KA(D E:jL)(ns:List Int):Prop where
 up:UpD E
 stays:kc D E
 used:j4 E.l<=j4 D.l
 nodup:(jt E).Nodup
 names:∀k,k∈jt E↔k∈jt D/\∀n∈ns,k≠ptT n/\k≠ptB n
 other:∀k,(∀n∈ns,k≠ptT n/\k≠ptB n)->jT E.l k=jT D.l k
theorem DM{D:jL}(h:UpD D)(o:(jt D).Nodup)(n:Int):∃E,uC D n=(0,E)/\KA D E [n]:=by
 obtain⟨I,G,j,g,u1,C,K,b,s,v⟩:=Qw h o (ptT n);obtain⟨J,a,l,i,u2,F,N,f,u,y⟩:=Qw u1 b (ptB n);refine⟨a, ?_,u2,C.trans F,by omega,f,fun k=>?_,fun k p=>?_⟩
 ·unfold uC;rw[j];simp only;rw[qZ (by rw[g];decide),l];simp only;rw[qZ (by rw[i];decide)]
 ·rw[u,s];simp only[List.mem_singleton,forall_eq];exact⟨fun q=>⟨q.1.1,q.1.2,q.2⟩,fun q=>⟨⟨q.1,q.2.1⟩,q.2.2⟩⟩
 ·obtain⟨z,B⟩:=p n qC;rw[y k B,v k z]
theorem DN: ∀(ns:List Int) {D:jL},UpD D->(jt D).Nodup->∃E,fj D ns=(0,E)/\KA D E ns
 | [],D,h,hd=>⟨D,rfl,h,kc.refl D,qK _,hd,fun k=>by simp,fun k _=>rfl⟩
 | n::ns,D,h,hd=>by
   obtain⟨o,j,a⟩:=DM h hd n;obtain⟨i,l,b⟩:=DN ns a.up a.nodup;refine⟨i, ?_,b.up,a.stays.trans b.stays,qR b.used a.used,b.nodup,fun k=>?_,fun k g=>?_⟩
   ·rw[DI,j];simp only;rw[qZ (by decide)];exact l
   ·rw[b.names,a.names];simp only[List.mem_cons,List.not_mem_nil,or_false,forall_eq_or_imp,forall_eq];exact⟨fun q=>⟨q.1.1,q.1.2,q.2⟩,fun q=>⟨⟨q.1,q.2.1⟩,q.2.2⟩⟩
   ·rw[b.other k (fun m f=>g m (qF _ f)),a.other k (fun m f=>by rw[qH.1 f];exact g n qC)]
structure qKr(D E:jL)(n:Nat)(l:List jI)(t:Tw)(m:ji):Prop where
 up:UpD E
 xB:E.xB=D.xB
 cap:E.cap=D.cap
 count:E.count<=D.count+2
 used:j4 E.l<=j4 D.l+t.size+(tbB l).size+(mfB m).size
 has:vo E n l
 names:∀k∈jt E,k=j7∨k=ptT n∨k=ptB n∨k∈jt D
 other:∀k,k≠j7->k≠j5->k≠ptT n->k≠ptB n->jT E.l k=jT D.l k
theorem sq{D:jL}{n:Int}{l:List jI}(a:D.down=false)(h:vo D n l):kS D n=0/\tgL (rdW D (ptT n)).1=l:=by
 obtain⟨f,b,g,i⟩:=h;unfold kS;rw[lu a b,qZ (by rw[a];decide)];simp[g,i]
theorem DO{D E:jL}{n:Nat}{l:List jI}{t:Tw}(h:kG D n l t=(0,E))(a:(jt D).Nodup)(w:sF D E n l t):(jt E).Nodup/\kc D E/\∀k∈jt E,k=ptT n∨k=ptB n∨k∈jt D:=by
 have e:E=(kQ (kQ D (ptB n) t).2 (ptT n) (tbB l)).2:=by
  unfold kG at h;split at h
  ·cases h
  ·split at h
   ·cases h
   ·split at h
    ·cases h
    ·split at h
     ·rename_i c;exact absurd (by rw[h]) c
     ·split at h
      ·rename_i c;exact absurd (congrArg Prod.fst h) c
      ·rw[h]
 rw[e];refine⟨sI (sI a),(mL _ _ _).trans (mL _ _ _),fun k b=>?_⟩;rcases KQ b with q|q
 ·exact qX q
 ·rcases KQ q with q|q
  ·exact qY (qX q)
  ·exact qY (qY q)
theorem DP{D:jL}{l:List jO}(h:(jt D).Nodup)(k:(l.map jO.name).Nodup):(jt (y9 D { D with l:=l }).2).Nodup:=by
 unfold y9;split
 ·exact k
 ·rw[Qs];exact h
theorem XQ{D:jL}(h:(jt D).Nodup)(n:Tw):(jt (jh D n).2).Nodup:=by
 unfold jh;split
 ·exact h
 ·split
  ·exact DP h (sH h)
  ·exact h
theorem qKs{l:List jO}(n:Tw)(h:(l.map jO.name).Nodup):((yc l n).map jO.name).Nodup:=by
 unfold yc;split
 ·exact sH h
 ·exact h
theorem qKt{l:List jO}{f:jO}(h:(l.map jO.name).Nodup)(j:jT l f.name=none):((kO l f).map jO.name).Nodup:=by
 have o:((kO l f).map jO.name).Perm (f.name::l.map jO.name):=by
  unfold kO;generalize yD l f.name=k;have e:l.map jO.name=(l.take k).map jO.name++(l.drop k).map jO.name:=by rw[<-List.map_append,qp]
  rw[e,List.map_append,List.map_append];show((l.take k).map jO.name++[f.name]++(l.drop k).map jO.name).Perm _;rw[qh];exact List.perm_middle
 refine o.nodup_iff.2 (List.nodup_cons.2 ⟨fun i=>?_,h⟩);obtain⟨g,b,a⟩:=qP.1 i;exact fi.1 j g b a
theorem qKa{D:jL}(h:(jt D).Nodup)(n m:Tw):(jt (vj D n m).2).Nodup:=by
 unfold vj;split
 ·exact h
 ·split
  ·split
   ·exact h
   ·refine DP h ?_;split
    ·exact h
    ·cases a:D.l[jx D.l n]? with
     | none =>
       unfold fp;rw[a];exact h
     | some f =>
       rw[oK a];exact qKt (qKs m (sH h)) (Cn (sH h))
  ·exact h
theorem qKe{D:jL}(h:(jt D).Nodup)(m:ji):(jt (uW D m).2).Nodup:=by
 unfold uW;split
 ·exact h
 ·split
  ·exact h
  ·split
   ·exact XQ h _
   ·split
    ·exact XQ h _
    ·split
     ·exact sI (XQ h _)
     ·exact qKa (sI (XQ h _)) _ _
theorem DR{x:Tw}(h:isC x=true):vm x=true/\npK x=99:=by
 unfold isC at h;rw[Bool.and_eq_true]at h;exact⟨h.1,by simpa using h.2⟩
theorem mP{x:Tw}(h:isC x=true):x≠j7/\x≠j5/\∀n:Nat,n<=999999->x≠ptT n/\x≠ptB n:=by
 obtain⟨a,b⟩:=DR h;have m:=Qi;have w:=DL;refine⟨fun e=>?_,fun e=>?_,fun n i=>?_⟩
 ·rw[e,m]at a;exact Bool.noConfusion a
 ·rw[e,w]at a;exact Bool.noConfusion a
 ·obtain⟨-,f,-,-,g,-⟩:=sT i;refine⟨fun e=>?_,fun e=>?_⟩
  ·rw[e,f]at b;exact absurd b (by decide)
  ·rw[e,g]at b;exact absurd b (by decide)
structure yH(X:List Tw)(D:jL)(S:IxS):Prop where
 up:UpD D
 nodup:(jt D).Nodup
 only:∀n∈jt D,n=j7∨n∈X∨∃t∈S.T,n=ptT t.n∨n=ptB t.n
 x9:∀x∈X,isC x=true
 xz:X.length<=200
theorem yH.many{X:List Tw}{D:jL}{S:IxS}(h:yH X D S)(ok:kV D S):D.l.length<=281:=by
 have a:=sN (b:=j7::(X++S.T.flatMap fun t=>[ptT t.n,ptB t.n])) h.nodup (fun n f=>by
  rcases h.only n f with e|e|⟨t,g,e⟩
  ·rw[e];exact qC
  ·exact qF _ (qW _ e)
  ·refine qF _ (qJ _ (xV.2 ⟨t,g, ?_⟩));rcases e with e|e<;>rw[e]<;>simp)
 have i:(jt D).length=D.l.length:=qq _;rw[qu,qL,qKm]at a;have:=ok.xS;have:=h.xz;omega
theorem yH.none_{X:List Tw}{D:jL}{S:IxS}(h:yH X D S)(ok:kV D S):jT D.l j5=none/\∀n:Nat,n<=999999->S.m.next<=n->jT D.l (ptT n)=none/\jT D.l (ptB n)=none:=by
 refine⟨pG fun b=>?_,fun n a i=>⟨pG fun b=>?_,pG fun b=>?_⟩⟩
 ·rcases h.only _ b with e|e|⟨t,f,e⟩
  ·exact ZY e.symm
  ·exact(mP (h.x9 _ e)).2.1 rfl
  ·have:=(ok.xT f).1;have:=fk (n:=t.n) (by omega);rcases e with e|e
   ·exact this.2.1 e.symm
   ·exact this.2.2.2 e.symm
 ·rcases h.only _ b with e|e|⟨t,f,e⟩
  ·exact(fk a).1 e
  ·exact((mP (h.x9 _ e)).2.2 n a).1 rfl
  ·have g:=ok.xT f;rcases e with e|e
   ·have:=(s9 a (by omega)).1 e;omega
   ·exact nG (by omega) a e.symm
 ·rcases h.only _ b with e|e|⟨t,f,e⟩
  ·exact(fk a).2.2.1 e
  ·exact((mP (h.x9 _ e)).2.2 n a).2 rfl
  ·have g:=ok.xT f;rcases e with e|e
   ·exact nG a (by omega) e
   ·have:=(s9 a (by omega)).2 e;omega
theorem yH.count{X:List Tw}{D:jL}{S:IxS}(h:yH X D S)(k:Nat):yH X { D with count:=k } S:=⟨h.up.count k,h.nodup,h.only,h.x9,h.xz⟩
structure bH(D E:jL):Prop where
 up:UpD E
 nodup:(jt E).Nodup
 xB:E.xB=D.xB
 cap:E.cap=D.cap
 count:E.count<=D.count+2
 used:j4 E.l<=j4 D.l
 names:∀k∈jt E,k∈jt D
 files:∀k,jT E.l k=jT D.l k
theorem bH.refl{D:jL}(h:UpD D)(a:(jt D).Nodup):bH D D:=⟨h,a,rfl,rfl,by omega,qK _,fun k b=>b,fun k=>rfl⟩
theorem bH.ok{D E:jL}{S:IxS}(h:bH D E)(ok:kV D S):kV E S:=by
 refine⟨ok.may,ok.seed,ok.xR,ok.uniq,fun u i=>?_,ok.keep,ok.xI,ok.ok,ok.mayE⟩;obtain⟨f,a,b,g⟩:=ok.has u i;exact⟨f,by rw[h.files];exact a,b,g⟩
theorem bH.dk{X:List Tw}{D E:jL}{S:IxS}(h:bH D E)(k:yH X D S):yH X E S:=⟨h.up,h.nodup,fun n a=>k.only n (h.names n a),k.x9,k.xz⟩
theorem qKi{D:jL}(h:UpD D){m:ji}(a:kF m)(b:jT D.l j5=none)(f:D.cap<j4 D.l+(mfB m).size+6000):uW D m=(60,D):=by
 unfold uW;rw[qZ (by simpa using a),qZ (by simp[h.down]),tA h.down b];simp only;rw[qZ (by decide),qV (by omega)]
theorem qKo{D a:jL}{n:Nat}(K:n<=999999){l:List jI}{t:Tw}(I:(jt D).Nodup)(O:jT D.l (ptT n)=none)(P:jT D.l (ptB n)=none)(F:kG D n l t=(0,a))(w1:sF D a n l t)(j:Nat)(X:j<=2):
  ∃E,uC { a with count:=a.count+j } (n:Nat)=(0,E)/\bH D E:=by
 obtain⟨C,U,Q⟩:=DO F I w1;obtain⟨f,p,b⟩:=DM (D:={ a with count:=a.count+j }) (w1.up.count _) C (n:Nat);obtain⟨v,G,u3,B,u,Y,V⟩:=qKX (D:={ a with count:=a.count+j }) (w1.up.count _) (n:=n) K w1.table w1.zN;obtain rfl:f=v:=congrArg Prod.snd (p.symm.trans G);have hw:=w1.used;simp only at V u;refine⟨f,p,b.up,b.nodup,b.stays.xB.trans U.xB,B.trans w1.cap,by rw[u,w1.count];omega,by omega,fun k J=>?_,fun k=>?_⟩
 ·obtain⟨y,z⟩:=(b.names k).1 J;obtain⟨g,i⟩:=z _ qC;rcases Q k y with e|e|e
  ·exact absurd e g
  ·exact absurd e i
  ·exact e
 ·have s:∀q:Tw,(q=ptT n∨q=ptB n)->jT f.l q=none:=fun q N=>pG fun o=>by
   obtain⟨g,i⟩:=((b.names q).1 o).2 _ qC;rcases N with e|e
   ·exact g e
   ·exact i e
  by_cases c1:k=ptT n
  ·rw[s k (qX c1),c1,O]
  ·by_cases c2:k=ptB n
   ·rw[s k (qY c2),c2,P]
   ·rw[b.other k (fun m o=>by rw[qH.1 o];exact⟨c1,c2⟩)];exact w1.other k c1 c2
structure DT(D E:jL)(n:Nat)(l:List jI)(t:Tw)(m:ji):Prop where
 laid:qKr D E n l t m
 map:jT E.l j7=some ⟨j7,mfB m,(mfB m).size⟩
 jF : jT E.l j5=none
 nodup:(jt E).Nodup
theorem KB{X:List Tw}{D:jL}{S:IxS}(dk:yH X D S)(ok:kV D S){n:Nat}(hn:S.m.next=(n:Nat))(s:n<=999999){l:List jI}(hr:kY l)(hm:∀x∈l,mayE x=true)(hx:∀x∈l,ks x)(hl:l.length<=10000)(t:Tw)
  {R:LvL} {en:Int} (C:kF (kX S R en)) (o:Nat):
  (o=0/\∃E x,vt D n l t o (kX S R en)=(0,E)/\uG S D n l t o R en=fT S R en x S.mem/\x.n=n/\x.l=l/\bu x.t x.l=true/\DT D E n l t (kX S R en)) ∨
  (∃e E,vt D n l t o (kX S R en)=(e,E)/\e≠0/\(e=60∨e=o)/\(o≠0∨D.cap<j4 D.l+t.size+(tbB l).size+6190)/\uG S D n l t o R en=S/\bH D E):=by
 have G:=Qa hr hm;obtain⟨k1,k2⟩:=dk.none_ ok;obtain⟨O,P⟩:=k2 n s (by omega);have af:=dk.many ok;by_cases ac:j4 D.l+t.size+(tbB l).size+6000<=D.cap
 ·obtain⟨g,q,p⟩:=Cd dk.up (n:=n) s G (t:=t) (by omega) O P ac;obtain⟨I,s1,n1⟩:=DO q dk.nodup p;have K:=p.has (by omega) hx G;obtain⟨Q,o2⟩:=sq p.up.down K;obtain⟨j,hj,o3⟩:=(KW g g.count (n:Nat) p.up.down).2;have U:uI g (n:Nat)={ g with count:=g.count+j }:=o3;have N:jT g.l j5=none:=by rw[p.other j5 (fun e=>(fk (n:=n) s).2.1 e.symm) (fun e=>(fk (n:=n) s).2.2.2 e.symm)];exact k1
  have back:∀(i:Nat) (e:Nat),i<=2->e≠0->(e=60∨e=o)->(o≠0∨D.cap<j4 D.l+t.size+(tbB l).size+6190)->vh g n o (kX S R en)=(e, { g with count:=g.count+i }) ->
    ∃e E,vt D n l t o (kX S R en)=(e,E)/\e≠0/\(e=60∨e=o)/\(o≠0∨D.cap<j4 D.l+t.size+(tbB l).size+6190)/\uG S D n l t o R en=S/\bH D E:=by
   intro i e hi F aa ae v;obtain⟨u,z,y⟩:=qKo s dk.nodup O P q p i hi;refine⟨e,u, ?_,F,aa,ae, ?_,y⟩
   ·unfold vt;rw[q];simp only;rw[qZ (by decide),v];simp only;rw[qV F,z]
   ·unfold uG;rw[q];simp only;rw[qZ (by decide)];unfold bF;rw[v];exact qZ F
  by_cases B:o=0
  ·subst B;by_cases ad:j4 g.l+(mfB (kX S R en)).size+6000<=g.cap
   ·refine qX ⟨rfl, ?_⟩;obtain⟨u,z,u2,y,q2,l2,f2,g2,J,x2⟩:=qKU (D:={ g with count:=g.count+j }) (p.up.count _) I C N (by show g.l.length<_;rw[p.many];omega) ad
    have v:vh g n 0 (kX S R en)=(0,u):=by
     unfold vh;rw[qZ (by decide),qZ (by rw[Q];decide),U];exact z
    have hw:=p.used
    have ab:(jt u).Nodup:=by
     have:=qKe (D:={ g with count:=g.count+j }) I (kX S R en);rw[z]at this;exact this
    refine⟨u,Qe g n, ?_, ?_,rfl,o2, ?_,⟨u2,(y.xB.trans s1.xB),(y.cap.trans p.cap), ?_, ?_, ?_,fun k hk=>?_,fun k a b c d=>?_⟩,f2,g2,ab⟩
    ·unfold vt;rw[q];simp only;rw[qZ (by decide),v];simp
    ·unfold uG;rw[q];simp only;rw[qZ (by decide)];unfold bF;rw[v];simp
    ·show bu (ldF _ _ _) _=true;exact UJ _ _ _
    ·have:=y.count;have:=p.count;show u.count<=_;simp only at*;omega
    ·show j4 u.l<=_;simp only at q2;omega
    ·obtain⟨f,V,Y,Z⟩:=K;exact⟨f,by rw[J _ (fun e=>(fk (n:=n) s).1 e) (fun e=>(fk (n:=n) s).2.1 e)];exact V,Y,Z⟩
    ·rcases x2 k hk with e|e
     ·exact qX e
     ·rcases n1 k e with e|e|e
      ·exact qY (qX e)
      ·exact qY (qY (qX e))
      ·exact qY (qY (qY e))
    ·rw[J k a b];exact p.other k c d
   ·refine qY (back j 60 hj (by decide) (qX rfl) (qY (by have:=p.used;have:=p.cap;have:=tT C;omega)) ?_);unfold vh;rw[qZ (by decide),qZ (by rw[Q];decide),U];exact qKi (D:={ g with count:=g.count+j }) (p.up.count _) C N (by show g.cap<j4 g.l+_+_;omega)
  ·refine qY (back 0 o (by omega) B (qY rfl) (qX B) ?_);unfold vh;rw[qV B];rfl
 ·have q:=Cf dk.up (n:=n) s G (t:=t) (by omega);refine qY ⟨60,D, ?_,by decide,qX rfl,qY (by omega), ?_,bH.refl dk.up dk.nodup⟩
  ·unfold vt;rw[q];simp
  ·unfold uG;rw[q];simp
structure pA(X:List Tw)(D E:jL)(S S':IxS):Prop where
 ok:kV E S'
 dk:yH X E S'
 has:∀x,uU S' x↔uU S x
 xO:∀x,(∃t∈S.T,x∈t.l)->∃t∈S'.T,x∈t.l
 xB:E.xB=D.xB
 cap:E.cap=D.cap
 other:∀k,isC k=true->jT E.l k=jT D.l k
theorem bH.step{X:List Tw}{D E:jL}{S:IxS}(h:bH D E)(dk:yH X D S)(ok:kV D S):pA X D E S S:=⟨h.ok ok,h.dk dk,fun x=>Iff.rfl,fun x a=>a,h.xB,h.cap,fun k _=>h.files k⟩
theorem D7{X:List Tw}{D N E:jL}{S:IxS}(dk:yH X D S)(ok:kV D S){n:Nat}(hn:S.m.next=(n:Nat))(p:n<=999999){l:List jI}{t:Tw}{R:LvL}{en:Int}(hM:kF (kX S R en)){x:TbS}(K:x.n=n)(xl:x.l=l)(xk:bu x.t x.l=true)
  (L:DT D N n l t (kX S R en)) {ns:List Int} (b:KA N E ns) (O:∀y:Int,y∈R.flatten↔y=n∨(y∈S.m.lv.flatten/\y ∉ ns)) (ae:∀y∈ns,y∈S.m.lv.flatten)
  {mem:List jI} (hr:kY mem) (af:∀y∈mem,ks y) (ac:∀y∈mem,mayE y=true) (aa:∀y,uU (fT S R en x mem) y↔uU S y) (ag:∀y,(∃u∈S.T,y∈u.l)->∃u∈(fT S R en x mem).T,y∈u.l):
  pA X D E S (fT S R en x mem)/\jT E.l j7=some ⟨j7,mfB (kX S R en),(mfB (kX S R en)).size⟩:=by
 have hst:∀u:TbS,u∈ue S.T R↔u∈S.T/\(u.n:Int) ∉ ns:=fun u=>by
  unfold ue;rw[qo,decide_eq_true_iff,O];constructor
  ·rintro ⟨g,o|o⟩
   ·have:=(ok.xT g).2;omega
   ·exact⟨g,o.2⟩
  ·rintro ⟨g,o⟩;exact⟨g,qY ⟨(ok.xR _).2 ⟨u,g,rfl⟩,o⟩⟩
 have v:∀y∈ns,∃j:Nat,y=(j:Nat)/\j<n:=fun y a=>by
  obtain⟨u,g,rfl⟩:=(ok.xR y).1 (ae y a);exact⟨u.n,rfl,by have:=(ok.xT g).2;omega⟩
 have Q:∀j:Nat,j<=999999->(j:Int) ∉ ns->∀y∈ns,(ptT j≠ptT y/\ptT j≠ptB y)/\ptB j≠ptT y/\ptB j≠ptB y:=fun j s U y a=>by
  obtain⟨i,rfl,G⟩:=v y a;exact⟨⟨fun e=>by have:=(s9 s (by omega)).1 e;subst this;exact U a,fun e=>nG (by omega) s e.symm⟩,fun e=>nG s (by omega) e,fun e=>by have:=(s9 s (by omega)).2 e;subst this;exact U a⟩
 have ad:((n:Nat):Int) ∉ ns:=fun I=>by
  obtain⟨i,e,G⟩:=v _ I;omega
 have ab:∀y∈ns,j7≠ptT y/\j7≠ptB y:=fun y a=>by
  obtain⟨i,rfl,G⟩:=v y a;have:=fk (n:=i) (by omega);exact⟨fun e=>this.1 e.symm,fun e=>this.2.2.1 e.symm⟩
 refine⟨⟨?_,⟨b.up,b.nodup,fun q hq=>?_,dk.x9,dk.xz⟩,aa,ag,b.stays.xB.trans L.laid.xB,b.stays.cap.trans L.laid.cap,fun k hk=>?_⟩,by rw[b.other _ ab];exact L.map⟩
 ·refine qKn ok hn hM K ?_ xk (P:=fun y=>y ∉ ns) O (fun u J=>?_) hr af ac
  ·rw[xl];obtain⟨f,B,C,V⟩:=L.laid.has;exact⟨f,by rw[b.other _ (fun y a=>(Q n p ad y a).1)];exact B,C,V⟩
  ·obtain⟨ah,ai⟩:=(hst u).1 J;have o:=ok.xT ah;have z:u.n<=999999:=(by omega);have:=fk z;rw[b.other _ (fun y a=>(Q u.n z ai y a).1)];exact L.laid.other _ this.1 this.2.1 (fun e=>by have:=(s9 z p).1 e;omega) (fun e=>nG p z e.symm)
 ·show q=j7∨q∈X∨∃u∈ue S.T R++[x],q=ptT u.n∨q=ptB u.n;obtain⟨g,o⟩:=(b.names q).1 hq;rcases L.laid.names q g with e|e|e|e
  ·exact qX e
  ·exact qY (qY ⟨x,qJ _ (qH.2 rfl),qX (by rw[K];exact e)⟩)
  ·exact qY (qY ⟨x,qJ _ (qH.2 rfl),qY (by rw[K];exact e)⟩)
  ·rcases dk.only q e with e|e|⟨u,J,e⟩
   ·exact qX e
   ·exact qY (qX e)
   ·refine qY (qY ⟨u,qW _ ((hst u).2 ⟨J,fun I=>?_⟩),e⟩);obtain⟨B,C⟩:=o _ I;rcases e with e|e
    ·exact B e
    ·exact C e
 ·obtain⟨Y,Z,F⟩:=mP hk
  rw[b.other k (fun y a=>by
   obtain⟨i,rfl,G⟩:=v y a;exact F i (by omega))]
  exact L.laid.other k Y Z (F n p).1 (F n p).2
theorem qKw{X:List Tw}{D:jL}{S:IxS}(dk:yH X D S)(ok:kV D S){n:Nat}(F:S.m.next=(n:Nat))(G:n<=999999)(K:S.mem.length<=10000)(t:Tw){en:Int}(z:0<=en)(B:en<=2147483647){i:Nat}(I:yU S.m.lv n=(i:Nat)):
  ∃e E S',dB 0 D S t n i en=(e,E)/\dC 0 D S t n i en=S'/\pA X D E S S'/\E.count<=D.count+2/\S'.m.seed=S.m.seed /\
   ((e=0/\S.mem=[]/\S'=S/\E=D) ∨
    (e=0/\S.mem≠[]/\S'.mem=[]/\S'.m=kX S (kL S.m.lv n) en/\S'.T.length=S.T.length+1/\jT E.l j7=some ⟨j7,mfB S'.m,(mfB S'.m).size⟩/\j4 E.l<=j4 D.l+t.size+(tbB S.mem).size+190) ∨
    (e=60/\S.mem≠[]/\S'=S/\bH D E/\(S.T.length=40∨D.cap<j4 D.l+t.size+(tbB S.mem).size+6190))):=by
 by_cases b:S.mem=[]
 ·refine⟨0,D,S, ?_, ?_,(bH.refl dk.up dk.nodup).step dk ok,by omega,rfl,qX ⟨rfl,b,rfl,rfl⟩⟩
  ·unfold dB;rw[qZ (by decide),qV b]
  ·unfold dC;rw[qZ (by decide),qV b]
 ·have s:=ok.may;have O:=Ci s.2.2.2.2.1 (n:=(n:Nat)) (by omega) (fun x hx=>by have:=s.2.2.2.2.2 x hx;omega)
  have ad:i=0∨(i=60/\S.T.length=40):=by
   rw[I]at O;split at O
   ·rename_i c;exact qY ⟨by omega,by rw[ok.many];exact c⟩
   ·exact qX (by omega)
  have C:dB 0 D S t n i en=vt D n S.mem t i (kX S (kL S.m.lv n) en):=by unfold dB;rw[qZ (by decide),qZ b]
  rcases ad with rfl|⟨rfl,V⟩
  ·have N:yU S.m.lv n=0:=I;obtain⟨P,a2,-⟩:=Kg N;have v:=fun y=>qKG N y
   have p:kF (kX S (kL S.m.lv n) en):=⟨by show 0<=S.m.next+1;omega,by show S.m.next+1<=_;omega,z,B,P,fun y a=>by
    show y<S.m.next+1;rcases(v y).1 a with e|e
    ·omega
    ·have:=s.2.2.2.2.2 y e;omega⟩
   rcases KB dk ok F G ok.xI ok.mayE ok.ok K t p 0 with⟨-,E,x,g,o,xn,J,xk,L⟩|⟨e,E,g,Q,U,af,o,j⟩
   ·have hst:∀u∈S.T,u∈ue S.T (kL S.m.lv n):=fun u f=>qo.2 ⟨f,qB ((v _).2 (qY ((ok.xR _).2 ⟨u,f,rfl⟩)))⟩
    obtain⟨Y,ab⟩:=D7 (mem:=[]) dk ok F G p xn J xk L (ns:=[]) ⟨L.laid.up,kc.refl _,qK _,L.nodup,fun k=>by simp,fun k _=>rfl⟩ (fun y=>by rw[v y];simp) (fun y a=>by cases a)
     List.Pairwise.nil (fun y a=>by cases a) (fun y a=>by cases a) (fun y=>by
      unfold uU;show(y∈[]∨∃u∈ue S.T (kL S.m.lv n)++[x],y∈u.l)↔_;constructor
      ·rintro (q|⟨u,f,q⟩)
       ·cases q
       ·rcases qD.1 f with k|k
        ·exact qY ⟨u,(qo.1 k).1,q⟩
        ·rw[qH.1 k,J]at q;exact qX q
      ·rintro (q|⟨u,f,q⟩)
       ·exact qY ⟨x,qJ _ (qH.2 rfl),by rw[J];exact q⟩
       ·exact qY ⟨u,qW _ (hst u f),q⟩)
     (fun y=>by
      rintro ⟨u,f,q⟩;exact⟨u,qW _ (hst u f),q⟩)
    have aa:ue S.T (kL S.m.lv n)=S.T:=List.filter_eq_self.2 fun u f=>qB ((v _).2 (qY ((ok.xR _).2 ⟨u,f,rfl⟩)))
    refine⟨0,E,fT S (kL S.m.lv n) en x [],by rw[C,g], ?_,Y,L.laid.count,rfl,qY (qX ⟨rfl,b,rfl,rfl, ?_,ab, ?_⟩)⟩
    ·unfold dC;rw[qZ (by decide),qZ b,g,o];simp only;rw[qV trivial];rfl
    ·show(ue S.T (kL S.m.lv n)++[x]).length=_;rw[aa];simp
    ·have:=L.laid.used;have:=tT p;omega
   ·obtain rfl:e=60:=(by omega);refine⟨60,E,S,by rw[C,g], ?_,j.step dk ok,j.count,rfl,qY (qY ⟨rfl,b,rfl,j,qY (by omega)⟩)⟩;unfold dC;rw[qZ (by decide),qZ b,g,o];simp only;rw[qZ (by decide)]
  ·
    have ae:kF (kX S S.m.lv en):=⟨by show 0<=S.m.next+1;omega,by show S.m.next+1<=_;omega,z,B,s.2.2.2.2.1,fun y a=>by
     show y<S.m.next+1;have:=s.2.2.2.2.2 y a;omega⟩
    have ac:yU S.m.lv n≠0:=by rw[I];decide
    have Z:kL S.m.lv n=[]∨kF (kX S (kL S.m.lv n) en):=by
     unfold kL;rw[qZ ac];exact qX rfl
    have p:kF (kX S (kL S.m.lv n) en):=by
     rcases Z with e|e
     ·rw[e];exact⟨by show 0<=S.m.next+1;omega,by show S.m.next+1<=_;omega,z,B,(show cX [] by decide),fun y a=>by cases a⟩
     ·exact e
    rcases KB dk ok F G ok.xI ok.mayE ok.ok K t p 60 with⟨h,-⟩|⟨e,E,g,Q,U,-,o,j⟩
    ·exact absurd h (by decide)
    ·obtain rfl:e=60:=(by omega);refine⟨60,E,S,by rw[C,g], ?_,j.step dk ok,j.count,rfl,qY (qY ⟨rfl,b,rfl,j,qX V⟩)⟩;unfold dC;rw[qZ (by decide),qZ b,g,o];simp only;rw[qZ (by decide)]
theorem qVQ{X:List Tw}{D:jL}{S:IxS}(dk:yH X D S)(ok:kV D S){n:Nat}(G:S.m.next=(n:Nat))(I:n<=999999){lev:Int}(P:(vW S (kU S.m.lv lev)).length<=10000)(t:Tw)(k:Nat){f:Nat}(V:vH S.m.lv lev=(f:Nat)){B:Nat}(aa:yL S.m.lv lev n=(B:Nat)):
  ∃e E S',dD D S t n lev f B k=(e,E)/\dr D S t n lev f B k=S'/\pA X D E S S'/\E.count<=D.count+k+2/\S'.m.seed=S.m.seed/\S'.m.check=S.m.check/\S'.mem=S.mem /\
   ((e=f/\f≠0/\S'=S/\E=D) ∨
    (e=0/\f=0/\S'.m=kX S (kh S.m.lv lev n) S.m.check/\S'.T.length<=S.T.length/\jT E.l j7=some ⟨j7,mfB S'.m,(mfB S'.m).size⟩/\j4 E.l<=j4 D.l+t.size+(tbB (vW S (kU S.m.lv lev))).size+190) ∨
    (e=60/\f=0/\S'=S/\bH D { E with count:=D.count }/\D.cap<j4 D.l+t.size+(tbB (vW S (kU S.m.lv lev))).size+6190)):=by
 by_cases z:f=0
 ·subst z;have s:=ok.may;have J:vH S.m.lv lev=0:=V;have K:yL S.m.lv lev n=0:=by rw[Co (by omega) (fun x Z=>by have:=s.2.2.2.2.2 x Z;omega),J]
  obtain rfl:B=0:=by omega
  obtain⟨N,a2,-⟩:=Kb K;have o:=fun y=>qKW K y
  have F:kF (kX S (kh S.m.lv lev n) S.m.check):=⟨by show 0<=S.m.next+1;omega,by show S.m.next+1<=_;omega,s.2.2.1,s.2.2.2.1,N,fun y a=>by
   show y<S.m.next+1;rcases(o y).1 a with e|⟨e,-⟩
   ·omega
   ·have:=s.2.2.2.2.2 y e;omega⟩
  have hst:∀u:TbS,u∈ue S.T (kh S.m.lv lev n)↔u∈S.T/\(u.n:Int) ∉ kU S.m.lv lev:=fun u=>by
   unfold ue;rw[qo,decide_eq_true_iff,o];constructor
   ·rintro ⟨i,p|p⟩
    ·have:=(ok.xT i).2;omega
    ·exact⟨i,p.2⟩
   ·rintro ⟨i,p⟩;exact⟨i,qY ⟨(ok.xR _).2 ⟨u,i,rfl⟩,p⟩⟩
  rcases KB (D:={ D with count:=D.count+k }) (dk.count _) (ok.count _) G I (Qt ok (kU S.m.lv lev)) (fun y a=>(pK ok _ y a).2) (fun y a=>(pK ok _ y a).1) P t F 0 with⟨-,E1,x,e1,e2,xn,xl,xk,L⟩|⟨e,E,e1,e0,ee,why,e2,sm⟩
  ·obtain⟨E,O,C⟩:=DN (kU S.m.lv lev) L.laid.up L.nodup
   obtain⟨g,U⟩:=D7 (mem:=S.mem) (dk.count (D.count+k)) (ok.count _) G I F xn xl xk L C o (fun y a=>sL y a) ok.xI ok.ok ok.mayE (fun y=>by
     unfold uU;show(y∈S.mem∨∃u∈ue S.T (kh S.m.lv lev n)++[x],y∈u.l)↔_;constructor
     ·rintro (q|⟨u,b,q⟩)
      ·exact qX q
      ·rcases qD.1 b with k|k
       ·exact qY ⟨u,((hst u).1 k).1,q⟩
       ·rw[qH.1 k,xl]at q;obtain⟨v,Y,-,a⟩:=sM.1 q;exact qY ⟨v,Y,a⟩
     ·rintro (q|⟨u,b,q⟩)
      ·exact qX q
      ·by_cases j:(u.n:Int)∈kU S.m.lv lev
       ·exact qY ⟨x,qJ _ (qH.2 rfl),by rw[xl];exact sM.2 ⟨u,b,j,q⟩⟩
       ·exact qY ⟨u,qW _ ((hst u).2 ⟨b,j⟩),q⟩)
    (fun y=>by
     rintro ⟨u,b,q⟩;by_cases j:(u.n:Int)∈kU S.m.lv lev
     ·exact⟨x,qJ _ (qH.2 rfl),by rw[xl];exact sM.2 ⟨u,b,j,q⟩⟩
     ·exact⟨u,qW _ ((hst u).2 ⟨b,j⟩),q⟩)
   have Q:(ue S.T (kh S.m.lv lev n)++[x]).length<=S.T.length:=by
    obtain⟨y,a⟩:=List.exists_mem_of_length_pos (pT J).2.2.2.2;obtain⟨u,b,rfl⟩:=(ok.xR y).1 (sL y a)
    have i:(ue S.T (kh S.m.lv lev n)).length<S.T.length:=by
     unfold ue;refine List.length_filter_lt_length_iff_exists.2 ⟨u,b, ?_⟩;rw[decide_eq_true_iff,o];rintro (e|⟨-,e⟩)
     ·have:=(ok.xT b).2;omega
     ·exact e a
    rw[qL];simp;omega
   refine⟨0,E,fT S (kh S.m.lv lev n) S.m.check x S.mem, ?_, ?_,⟨g.ok,g.dk,g.has,g.xO,g.xB,g.cap,g.other⟩, ?_,rfl,rfl,rfl,qY (qX ⟨rfl,rfl,rfl,Q,U, ?_⟩)⟩
   ·unfold dD;rw[qZ (by decide),e1];simp only;rw[qZ (by decide)];exact O
   ·unfold dr;rw[qZ (by decide)];exact e2
   ·rw[C.stays.count];have:=L.laid.count;simp only at this;omega
   ·have:=L.laid.used;have:=tT F;have:=C.used;simp only at*;omega
  ·obtain rfl:e=60:=(by omega);refine⟨60,E,S, ?_, ?_, ?_,sm.count,rfl,rfl,rfl,qY (qY ⟨rfl,rfl,rfl, ?_, ?_⟩)⟩
   ·unfold dD;rw[qZ (by decide),e1];simp
   ·unfold dr;rw[qZ (by decide)];exact e2
   ·have:=sm.step (dk.count _) (ok.count _);exact⟨this.ok,this.dk,this.has,this.xO,this.xB,this.cap,this.other⟩
   ·exact⟨sm.up.count _,sm.nodup,sm.xB,sm.cap,by simp,sm.used,sm.names,sm.files⟩
   ·rcases why with w|w
    ·exact absurd rfl w
    ·exact w
 ·refine⟨f,D,S, ?_, ?_,(bH.refl dk.up dk.nodup).step dk ok,by omega,rfl,rfl,rfl,qX ⟨rfl,z,rfl,rfl⟩⟩
  ·unfold dD;rw[qV z]
  ·unfold dr;rw[qV z]
end
def bI(n:Nat):List Tw:=(List.range n).map nmC
theorem sj{n:Nat}{x:Tw}:x∈bI n↔∃i,i<n/\x=nmC i:=by
 unfold bI;rw[qP];constructor
 ·rintro ⟨i,h,e⟩;exact⟨i,List.mem_range.1 h,e.symm⟩
 ·rintro ⟨i,h,e⟩;exact⟨i,List.mem_range.2 h,e.symm⟩
theorem qVX{n:Nat}(h:n<=200):∀x∈bI n,isC x=true:=fun x a=>by
 obtain⟨i,b,rfl⟩:=sj.1 a;exact(mF (by omega)).1
theorem qVZ(n:Nat):(bI n).length=n:=by unfold bI;rw[qq,List.length_range]
theorem qVJ{n:Nat}(h:n<=999999):isC (ptT n)=false/\isC (ptB n)=false:=by
 have g:∀x:Tw,(x=ptT n∨x=ptB n)->isC x=false:=fun x a=>by
  cases q:isC x with
  | false=>rfl
  | true =>
    have:=(mP q).2.2 n h;rcases a with e|e
    ·exact absurd e this.1
    ·exact absurd e this.2
 exact⟨g _ (qX rfl),g _ (qY rfl)⟩
theorem D8: isC j7=false:=by unfold isC;rw[Qi];rfl
theorem kV.data{D E:jL}{S:IxS}(ok:kV D S)(h:∀t∈S.T,(jT E.l (ptT t.n)).map jO.data=(jT D.l (ptT t.n)).map jO.data):kV E S:=by
 refine⟨ok.may,ok.seed,ok.xR,ok.uniq,fun t b=>?_,ok.keep,ok.xI,ok.ok,ok.mayE⟩;obtain⟨f,i,j,k⟩:=ok.has t b;have e:=h t b;rw[i]at e;obtain⟨g,o,a⟩:=xG.1 (e:(jT E.l (ptT t.n)).map jO.data=some f.data);exact⟨g,o,by rw[a];exact j,by rw[a];exact k⟩
theorem yH.same{X:List Tw}{D E:jL}{S:IxS}(dk:yH X D S)(h:vM D E)(hw:WfP E):yH X E S:=⟨⟨h.down.trans dk.up.down,h.fails.trans dk.up.fails,hw⟩,by unfold jt;rw[h.names];exact dk.nodup,fun n a=>dk.only n (by unfold jt at a ⊢;rw[<-h.names];exact a),dk.x9,dk.xz⟩
theorem kV.zl{D E:jL}{S:IxS}(ok:kV D S)(h:vM D E):kV E S:=ok.data fun t _=>h.data _
section
variable {D E:jL}{S S':IxS}{L M:jq}{chs chs':List (List Tw)}
theorem yH.app{p:Tw}{q:Nat}(dk:yH (bI chs.length) D S)(ok:kV D S)(a:mH D L chs p q E M chs')(hw:WfP E)(f:(jt E).Nodup):kV E S/\yH (bI chs'.length) E S:=by
 have b:=a.xF.many;refine⟨ok.data fun t j=>a.others _ (qVJ (by have:=(ok.xT j).1;omega)).1,⟨a.xF.up,a.xF.fails,hw⟩,f,fun n g=>?_,qVX b,by rw[qVZ];exact b⟩;rcases a.names n g with k|k
 ·rcases dk.only n k with e|e|e
  ·exact qX e
  ·refine qY (qX ?_);obtain⟨i,l,e⟩:=sj.1 e;have:=a.length
   have o:chs.length<=chs'.length:=by
    rw[a.chunks];unfold plC;split
    ·rename_i c
     have:0<chs.length:=by
      unfold bB at c;exact(of_decide_eq_true c).1
     rw[qL,List.length_dropLast];simp;omega
    ·simp
   exact sj.2 ⟨i,by omega,e⟩
  ·exact qY (qY e)
 ·exact qY (qX (sj.2 k))
theorem pA.xF(h:pA (bI chs.length) D E S S')(g:ku D chs):ku E chs:=by
 have q:=g.many;refine⟨h.dk.up.down,h.dk.up.fails,g.many,fun i ps a=>?_,g.small,fun f l b=>?_,(h.dk.none_ h.ok).1⟩
 ·obtain⟨f,j,k⟩:=g.files i ps a;have p:=(qO.1 a).1;exact⟨f,by rw[h.other _ (mF (by omega)).1];exact j,k⟩
 ·rcases h.dk.only f.name (qP.2 ⟨f,l,rfl⟩) with e|e|⟨t,o,e⟩
  ·exact absurd e (mP b).1
  ·obtain⟨i,a,e⟩:=sj.1 e;exact⟨i,a,e⟩
  ·have:=(mP b).2.2 t.n (by have:=(h.ok.xT o).1;omega);rcases e with e|e
   ·exact absurd e this.1
   ·exact absurd e this.2
theorem uV.zH(h:uV D L chs)(e:E.xB=D.xB):uV E L chs:=⟨e.trans h.xB,h.x5,h.endp,h.sure⟩
end
section
structure dt(X:List Tw)(D:jL):Prop where
 up:UpD D
 nodup:(jt D).Nodup
 only:∀n∈jt D,n=j7∨n=j5∨n∈X∨∃k:Nat,k<=999999/\(n=ptT k∨n=ptB k)
 x9:∀x∈X,isC x=true
 xz:X.length<=200
theorem yH.fl{X:List Tw}{D:jL}{S:IxS}(h:yH X D S)(ok:kV D S):dt X D:=⟨h.up,h.nodup,fun n a=>by
 rcases h.only n a with e|e|⟨t,b,e⟩
 ·exact qX e
 ·exact qY (qY (qX e))
 ·exact qY (qY (qY ⟨t.n,by have:=(ok.xT b).1;omega,e⟩)),h.x9,h.xz⟩
theorem dt.count{X:List Tw}{D:jL}(h:dt X D)(k:Nat):dt X { D with count:=k }:=⟨h.up.count k,h.nodup,h.only,h.x9,h.xz⟩
structure XX(D E:jL)(p:Tw->Prop):Prop where
 up:UpD E
 stays:kc D E
 used:j4 E.l<=j4 D.l
 nodup:(jt E).Nodup
 names:∀k,k∈jt E↔k∈jt D/\p k
 other:∀k,p k->jT E.l k=jT D.l k
theorem D9: ∀(ns:List Tw) {D:jL},UpD D->(jt D).Nodup->ns.Nodup->(∀n∈ns,n∈jt D)->∃E,fw D ns=(0,E)/\XX D E (fun k=>k ∉ ns)
 | [],D,h,hd,hn,hm=>⟨D,rfl,h,kc.refl D,qK _,hd,fun k=>by simp,fun k _=>rfl⟩
 | n::ns,D,h,hd,hn,hm=>by
   obtain⟨s,u⟩:=List.nodup_cons.1 hn;obtain⟨e,C,b,G,u1,z,B,l,i,y⟩:=Qw h hd n;obtain⟨f,v⟩:=Nn (hm n qC);obtain⟨F,o,-⟩:=tC h v;obtain⟨rfl,rfl⟩:=Prod.mk.inj (b.symm.trans o);obtain⟨j,p,L⟩:=D9 ns u1 l u (fun x g=>(i x).2 ⟨hm x (qF _ g),fun q=>s (q ▸ g)⟩);refine⟨j, ?_,L.up,z.trans L.stays,qR L.used B,L.nodup,fun k=>?_,fun k a=>?_⟩
   ·unfold fw;rw[b];simpa using p
   ·rw[L.names,i];simp only[List.mem_cons,not_or];exact⟨fun q=>⟨q.1.1,q.1.2,q.2⟩,fun q=>⟨⟨q.1,q.2.1⟩,q.2.2⟩⟩
   ·simp only[List.mem_cons,not_or]at a;rw[L.other k a.2,y k a.1]
theorem qVK{D:jL}(h:UpD D)(a:(jt D).Nodup)(m:ji):∃E,nX D m=(0,E)/\XX D E (fun k=>gM m.lv.flatten k=false∨k ∉ jt D):=by
 obtain⟨E,b,L⟩:=D9 (gN (jt D) m) h a (a.filter _) (fun n g=>(qo.1 g).1)
 have e:∀k,k ∉ gN (jt D) m↔(gM m.lv.flatten k=false∨k ∉ jt D):=fun k=>by
  unfold gN;rw[qo];cases gM m.lv.flatten k<;>simp
 refine⟨E, ?_,L.up,L.stays,L.used,L.nodup,fun k=>by rw[L.names,e],fun k f=>L.other k ((e k).2 f)⟩;unfold nX;rw[qZ (by simp[h.down])];exact b
theorem qVV{x:Tw}(h:isC x=true)(fl:List Int):gM fl x=false:=by
 obtain⟨b,a⟩:=DR h;unfold gM;rw[a];simp[(mP h).2.1]
theorem Dq{n:Nat}(h:n<=999999)(fl:List Int):gM fl (ptT n) = !decide ((n:Int)∈fl)/\gM fl (ptB n) = !decide ((n:Int)∈fl):=by
 obtain⟨a,b,g,i,j,k⟩:=sT h;have f:=fk h;unfold gM;rw[a,b,g,i,j,k];simp[f.2.1,f.2.2.2]
theorem qVY(fl:List Int):gM fl j7=false:=by
 unfold gM;rw[Qi];simp[ZY]
theorem XX.dk{X:List Tw}{D E:jL}{S:IxS}{m:ji}(fl:dt X D)(j:m.lv.flatten=S.m.lv.flatten)(L:XX D E (fun k=>gM m.lv.flatten k=false∨k ∉ jt D))(ok:kV D S):kV E S/\yH X E S/\(∀k,isC k=true->jT E.l k=jT D.l k)/\jT E.l j7=jT D.l j7:=by
 refine⟨ok.data fun t b=>?_,⟨L.up,L.nodup,fun n s=>?_,fl.x9,fl.xz⟩,fun k f=>L.other k (qX (qVV f _)),L.other _ (qX (qVY _))⟩
 ·have z:=(ok.xT b).1;rw[L.other _ (qX ?_)];rw[(Dq (by omega) _).1,j,qB ((ok.xR _).2 ⟨t,b,rfl⟩)];rfl
 ·obtain⟨g,p⟩:=(L.names n).1 s;have a:gM m.lv.flatten n=false:=p.resolve_right (fun q=>q g);rcases fl.only n g with e|e|e|⟨k,f,e⟩
  ·exact qX e
  ·rw[e]at a;unfold gM at a;simp at a
  ·exact qY (qX e)
  ·have i:(k:Int)∈m.lv.flatten:=by
    obtain⟨u,v⟩:=Dq f m.lv.flatten;rcases e with e|e
    ·rw[e,u]at a;simpa using a
    ·rw[e,v]at a;simpa using a
   rw[j]at i;obtain⟨t,b,y⟩:=(ok.xR _).1 i;have o:t.n=k:=(by omega);exact qY (qY ⟨t,b,by rw[o];exact e⟩)
theorem Dx{D E:jL}{chs:List (List Tw)}(g:ku D chs)(up:UpD E)(o:∀k∈jt E,k∈jt D)(y:∀k,isC k=true->jT E.l k=jT D.l k):ku E chs:=by
 have B:=g.many;refine⟨up.down,up.fails,g.many,fun i ps j=>?_,g.small,fun f a b=>?_,pG fun q=>?_⟩
 ·obtain⟨f,s,u⟩:=g.files i ps j;have z:=(qO.1 j).1;exact⟨f,by rw[y _ (mF (by omega)).1];exact s,u⟩
 ·obtain⟨p,v,e⟩:=qP.1 (o f.name (qP.2 ⟨f,a,rfl⟩));rw[<-e]at b ⊢;exact g.only p v b
 ·obtain⟨f,a,e⟩:=qP.1 (o _ q);exact fi.1 g.zW f a e
theorem qVU{D:jL}(a:D.down=false){m:ji}(g:kF m)(j:m.seed<18446744073709551616)(h:(jT D.l j7).map jO.data=some (mfB m)):yM D=0/\kK D=dP m/\cM D={ D with count:=D.count+1 }:=by
 obtain⟨f,b,e⟩:=xG.1 h;have i:=lu a b;obtain⟨k,o⟩:=Nd g j;unfold yM kK cM;rw[i];simp only[e];exact⟨by rw[qZ (by decide),k],by rw[qZ (by decide),o],trivial⟩
theorem qVG{D:jL}(a:D.down=false)(h:jT D.l j7=none):yM D≠0/\cM D=D:=by
 have b:=mi a h;unfold yM cM;rw[b];exact⟨by simp,rfl⟩
theorem qVW(m:ji):(dP m).lv.flatten=m.lv.flatten:=l9 m.lv
end
def yV(seed:Nat)(x:Nat × Tw):List jI:=(List.range (bgL x.2).length).map fun i=>⟨kx seed (bgS x.2).data.toList,bgF x.2+(i:Nat),(x.1:Nat)⟩
def yI(seed:Nat)(l:List (Nat × Tw)):List jI:=l.flatMap (yV seed)
theorem mR{seed:Nat}{l:List (Nat × Tw)}{y:jI}:y∈yI seed l↔∃x∈l,y∈yV seed x:=xV
theorem qVA(seed:Nat)(l:List (Nat × Tw))(x:Nat × Tw)(y:jI):y∈yI seed (l++[x])↔y∈yI seed l∨y∈yV seed x:=by
 unfold yI;rw[List.flatMap_append,qD];simp
structure uo(seed:Nat)(S:IxS)(chs:List (List Tw)):Prop where
 sd:S.m.seed=seed
 whole:∀x∈jR 0 chs,vZ x.2=true
 has:∀y,uU S y↔y∈yI seed (jR 0 chs)
 xm:∀x∈jR 0 chs,(x.1:Int)<S.m.check->∀y∈yV seed x,∃t∈S.T,y∈t.l
 check:S.m.check<=(kz chs:Nat)
 fresh:∀y∈S.mem,∃x∈jR 0 chs,S.m.check<=(x.1:Int)/\y∈yV seed x
 xO:S.T.length<=((jR 0 chs).filter fun x=>decide ((x.1:Int)<S.m.check)).length
section
variable {seed:Nat}{S S':IxS}{chs chs':List (List Tw)}{D E:jL}
theorem uo.merge(h:uo seed S chs)(f:∀x,uU S' x↔uU S x)(o:∀x,(∃t∈S.T,x∈t.l)->∃t∈S'.T,x∈t.l)(k:S'.m.seed=S.m.seed)(a:S'.m.check=S.m.check)(i:S'.mem=S.mem)(j:S'.T.length<=S.T.length):uo seed S' chs :=
 ⟨k.trans h.sd,h.whole,fun y=>(f y).trans (h.has y),fun x p g y b=>o y (h.xm x p (by rw[<-a];exact g) y b),by rw[a];exact h.check,fun y b=>by rw[i]at b;rw[a];exact h.fresh y b,by rw[a];exact qR j h.xO⟩
theorem Dz{D:jL}(g:ku D chs):∀x∈jR 0 chs,x.1<kz chs:=by
 intro x q;have p:=(lH chs 0 (fun ps f=>(g.small ps f).1))
 have l:=Bc chs (fun ps f=>(g.small ps f).1);obtain⟨i,a⟩:=ql q;have b:=(qO.1 a).1
 have o:x.1+12<=vd (jR 0 chs) (jR 0 chs).length:=by
  unfold vd;rw[qZ (by omega)];have j:(jR 0 chs)[(jR 0 chs).length-1]? = some ((jR 0 chs)[(jR 0 chs).length-1]'(by omega)):=qE _;rw[j];show x.1+12<=vV _;by_cases e:i=(jR 0 chs).length-1
  ·subst e;rw[j]at a;obtain rfl:=qb a;unfold vV;omega
  ·have:=xY.1 p.1 i ((jR 0 chs).length-1) b (by omega) (by omega)
   have k:(jR 0 chs)[i]'b=x:=by
    rw[qE b]at a;exact qb a
   rw[k]at this;unfold vV at this ⊢;omega
 rcases l with e|⟨s,u⟩
 ·rw[e]at o;omega
 ·omega
theorem uo.flush(h:uo seed S chs)(g:ku D chs)(i:∀x,uU S' x↔uU S x)(j:S'.mem=[]){R:LvL}(f:S'.m=kX S R (kz chs:Nat))(o:S.mem≠[])(k:S'.T.length=S.T.length+1):uo seed S' chs:=by
 have e:S'.m.check=(kz chs:Nat):=by rw[f];rfl
 refine⟨by rw[f];exact h.sd,h.whole,fun y=>(i y).trans (h.has y),fun x b _ y a=>?_,by rw[e];exact Int.le_refl _,(fun y a=>by rw[j]at a;cases a), ?_⟩;rotate_left
 ·rw[e];have l:(jR 0 chs).filter (fun x=>decide ((x.1:Int)<((kz chs:Nat):Int)))=jR 0 chs:=List.filter_eq_self.2 fun x b=>qB (by have:=Dz g x b;omega)
  rw[l,k];obtain⟨y,a⟩:=List.exists_mem_of_ne_nil _ o;obtain⟨x,b,p,-⟩:=h.fresh y a;have s:((jR 0 chs).filter fun x=>decide ((x.1:Int)<S.m.check)).length<(jR 0 chs).length:=List.length_filter_lt_length_iff_exists.2 ⟨x,b,by simp;omega⟩;have:=h.xO;omega
 have:uU S' y:=(i y).2 ((h.has y).2 (mR.2 ⟨x,b,a⟩));rcases this with q|q
 ·rw[j]at q;cases q
 ·exact q
theorem uo.append(h:uo seed S chs){q:Nat}{p:Tw}(s:vZ p=true)(b:jR 0 chs'=jR 0 chs++[(q,p)])(C:kz chs<=q)(B:q<=kz chs')(v:∀y,uU S' y↔uU S y∨y∈yV seed (q,p))(j:S'.T=S.T)(f:S'.m=S.m)(u:∀y∈S'.mem,y∈S.mem∨y∈yV seed (q,p)):uo seed S' chs':=by
 have z:=h.check;refine⟨by rw[f];exact h.sd,fun x a=>?_,fun y=>?_,fun x a g y i=>?_,by rw[f];omega,fun y i=>?_, ?_⟩
 ·rw[b]at a;rcases qD.1 a with k|k
  ·exact h.whole x k
  ·rw[qH.1 k];exact s
 ·rw[v,h.has,b,qVA]
 ·rw[b]at a;rw[j];rw[f]at g;rcases qD.1 a with k|k
  ·exact h.xm x k g y i
  ·rw[qH.1 k]at g;simp only at g;omega
 ·rw[f,b];rcases u y i with k|k
  ·obtain⟨x,a,l,o⟩:=h.fresh y k;exact⟨x,qW _ a,l,o⟩
  ·exact⟨(q,p),qJ _ (qH.2 rfl),by simp only;omega,k⟩
 ·rw[j,f,b,List.filter_append,qL];have:=h.xO;omega
theorem uo.opened(h:uo seed S chs)(f:S'.m.check=S.m.check)(o:S'.m.seed=S.m.seed)(i:∀y,(∃t∈S'.T,y∈t.l)↔∃t∈S.T,y∈t.l)(g:∀y,y∈S'.mem↔∃x∈jR 0 chs,S.m.check<=(x.1:Int)/\y∈yV seed x)(j:S'.T.length<=S.T.length):uo seed S' chs:=by
 refine⟨o.trans h.sd,h.whole,fun y=>?_,fun x b k y a=>(i y).2 (h.xm x b (by rw[<-f];exact k) y a),by rw[f];exact h.check,fun y a=>by rw[f];exact(g y).1 a,by rw[f];exact qR j h.xO⟩;rw[mR];constructor
 ·rintro (q|q)
  ·obtain⟨x,b,-,a⟩:=(g y).1 q;exact⟨x,b,a⟩
  ·exact mR.1 ((h.has y).1 (qY ((i y).1 q)))
 ·rintro ⟨x,b,a⟩;rcases Int.lt_or_le (x.1:Int) S.m.check with c|c
  ·exact qY ((i y).2 (h.xm x b c y a))
  ·exact qX ((g y).2 ⟨x,b,c,a⟩)
theorem qVB(hw:∀x∈jR 0 chs,vZ x.2=true)(k:S'.m.seed=seed)(a:S'.m.check=0)(f:S'.T=[])(b:∀y,y∈S'.mem↔∃x∈jR 0 chs,y∈yV seed x):uo seed S' chs:=by
 refine⟨k,hw,fun y=>?_,fun x g j=>by rw[a]at j;omega,by rw[a];omega,fun y l=>by
  obtain⟨x,g,i⟩:=(b y).1 l;exact⟨x,g,by rw[a];omega,i⟩,by rw[f];exact qI _⟩
 rw[mR,<-b];unfold uU;rw[f];simp
theorem Dj{x:Nat × Tw}(h:vZ x.2=true)(v:x.1<=2147483647):∀y∈yV seed x,ks y/\mayE y=true:=by
 intro y b;unfold yV at b;obtain⟨i,a,rfl⟩:=qP.1 b;have a:=List.mem_range.1 a;obtain⟨-,s,u,-,-,f⟩:=dY h;obtain⟨j,k,l,o,p,q,-⟩:=bc.1 f;have g:kx seed (bgS x.2).data.toList<18446744073709551616:=XR _ _;refine⟨⟨g,by show _<=bgF x.2+(i:Nat);omega,by show bgF x.2+(i:Nat)<=_;omega,by show _<=((x.1:Nat):Int);omega,by show((x.1:Nat):Int)<=_;omega⟩, ?_⟩;unfold mayE;exact qB ⟨by show 0<=bgF x.2+(i:Nat);omega,by show 0<=((x.1:Nat):Int);omega⟩
end
section
theorem KC{L:List Rec}(h:bC L){p:Nat}{x:Rec}(i:L.find? (fun z=>decide (p<=z.1))=some x):x∈L/\p<=x.1/\∀z∈L,z.1<vV x↔z.1<p∨z=x:=by
 obtain⟨j,u,v,rfl,g⟩:=List.find?_eq_some_iff_append.1 i;have l:p<=x.1:=of_decide_eq_true j;have o:x.1<vV x:=by unfold vV;omega
 refine⟨qJ _ qC,l,fun z s=>?_⟩;have b:=(List.pairwise_append.1 h).2.1;have f:=(xU.1 b).1;rcases qD.1 s with k|k
 ·have a:=g z k;simp at a;exact⟨fun _=>qX a,fun _=>by omega⟩
 ·rcases qM.1 k with e|k
  ·subst e;exact⟨fun _=>qY rfl,fun _=>o⟩
  ·have:=f z k
   exact⟨fun q=>by omega,fun q=>by
    rcases q with q|q
    ·omega
    ·rw[q]at this;omega⟩
theorem qVC{L:List Rec}{p:Nat}(a:L.find? (fun z=>decide (p<=z.1))=none):∀z∈L,z.1<p:=fun z b=>by
 have:=List.find?_eq_none.1 a z b;simp at this;exact this
def pB(L:List Rec)(p:Nat):Nat:=(L.filter fun z=>decide (p<=z.1)).length
theorem Dv(L:List Rec)(p:Nat):pB L p<=L.length:=List.length_filter_le _ _
theorem qVD{L:List Rec}(h:bC L){p:Nat}{x:Rec}(f:L.find? (fun z=>decide (p<=z.1))=some x):pB L (vV x)+1<=pB L p:=by
 obtain⟨a,b,g⟩:=KC h f;have i:x.1<vV x:=by unfold vV;omega
 have e:L.filter (fun z=>decide (vV x<=z.1))=(L.filter (fun z=>decide (p<=z.1))).filter (fun z=>decide (vV x<=z.1)):=by
  rw[List.filter_filter];refine List.filter_congr fun z _=>?_
  by_cases q:vV x<=z.1
  ·rw[qB q,qB (show p<=z.1 by omega)];rfl
  ·rw[qA q];rfl
 unfold pB;rw[e];exact List.length_filter_lt_length_iff_exists.2 ⟨x,qo.2 ⟨a,qB b⟩,by simp;omega⟩
def di(seed:Nat)(L:List Rec)(c p:Nat)(M:List jI):Prop:=∀y,y∈M↔∃x∈L,c<=x.1/\x.1<p/\y∈yV seed x
theorem di.start(seed:Nat)(L:List Rec)(c:Nat):di seed L c c []:=fun y=>⟨fun h=>(by cases h),fun⟨x,_,a,b,_⟩=>by omega⟩
theorem di.step{seed:Nat}{L:List Rec}{c p:Nat}{M j:List jI}(h:di seed L c p M)(u:bC L){x:Rec}(o:L.find? (fun z=>decide (p<=z.1))=some x)(B:c<=p)(s:∀y,y∈j↔y∈M∨y∈yV seed x):di seed L c (vV x) j:=by
 obtain⟨l,v,f⟩:=KC u o;intro y;rw[s,h];constructor
 ·rintro (⟨z,a,g,i,b⟩|q)
  ·exact⟨z,a,g,(f z a).2 (qX i),b⟩
  ·exact⟨x,l,by omega,(f x l).2 (qY rfl),q⟩
 ·rintro ⟨z,a,g,i,b⟩;rcases(f z a).1 i with k|k
  ·exact qX ⟨z,a,g,k,b⟩
  ·rw[k]at b;exact qY b
theorem di.done{seed:Nat}{L:List Rec}{c p:Nat}{M:List jI}(h:di seed L c p M)(g:L.find? (fun z=>decide (p<=z.1))=none):∀y,y∈M↔∃x∈L,(c:Int)<=(x.1:Int)/\y∈yV seed x:=fun y=>by
 have f:=qVC g;rw[h];exact⟨fun⟨x,a,i,_,b⟩=>⟨x,a,by omega,b⟩,fun⟨x,a,i,b⟩=>⟨x,a,by omega,f x a,b⟩⟩
theorem di.len{seed:Nat}{L:List Rec}{c p:Nat}{M:List jI}(h:di seed L c p M)(a:kY M):M.length<=(yI seed L).length:=lO a fun y b=>by
 obtain⟨x,f,_,_,g⟩:=(h y).1 b;exact mR.2 ⟨x,f,g⟩
theorem Dy: ∀(ps:List Tw) (k:Nat) (x:Rec),x∈yx k ps->x.2∈ps
 | [],_,_,h=>by cases h
 | p::ps,k,x,h=>by
   rcases qM.1 h with e|h
   ·rw[e];exact qC
   ·exact qF _ (Dy ps _ x h)
theorem Du: ∀(chs:List (List Tw)) (i:Nat) (x:Rec),x∈jR i chs->∃ps∈chs,x.2∈ps
 | [],_,_,h=>by cases h
 | ps::r,i,x,h=>by
   rcases qD.1 h with h|h
   ·exact⟨ps,qC,Dy _ _ _ h⟩
   ·obtain⟨q,a,b⟩:=Du r (i+1) x h;exact⟨q,qF _ a,b⟩
theorem KD{D:jL}{chs:List (List Tw)}(g:ku D chs){x:Rec}(h:x∈jR 0 chs):x.2.size<=2000:=by
 obtain⟨ps,a,b⟩:=Du chs 0 x h;exact(g.small ps a).2 _ b
theorem Dg{D D':jL}(a:D.down=false)(k:vM D D')(n:Tw):(rdW D' n).1=(rdW D n).1/\(rdW D' n).2.1=(rdW D n).2.1:=by
 have e:=k.data n;have b:=k.down.trans a;cases h:jT D.l n with
 | none =>
   rw[h]at e
   have i:jT D'.l n=none:=by cases q:jT D'.l n with
    | none=>rfl
    | some f=>rw[q]at e;cases e
   rw[mi a h,mi b i];exact⟨rfl,rfl⟩
 | some f =>
   rw[h]at e;obtain⟨o,j,g⟩:=xG.1 (e:(jT D'.l n).map jO.data=some f.data);rw[lu a h,lu b j,g];exact⟨rfl,rfl⟩
theorem qVE{D D':jL}(f:D.down=false)(k:vM D D')(n:Int):kS D' n=kS D n:=by
 obtain⟨a,b⟩:=Dg f k (ptT n);unfold kS;rw[a,b,k.down]
structure jb where
 s:Tw
 v:Int
 e:jd
def cm(s:Tw)(f:Int)(l:List jd):List jb:=l.mapIdx fun i x=>⟨s,f+(i:Nat),x⟩
theorem XZ(s:Tw)(f:Int)(l:List jd):(cm s f l).length=l.length:=List.length_mapIdx
theorem mS(s:Tw)(f:Int)(l:List jd)(i:Nat):(cm s f l)[i]? = (l[i]?).map fun x=>⟨s,f+(i:Nat),x⟩:=List.getElem?_mapIdx
theorem Db{s:Tw}{f:Int}{l:List jd}{x:jb}(h:x∈cm s f l):x.s=s:=by
 obtain⟨i,a⟩:=ql h;rw[mS]at a;obtain⟨y,-,rfl⟩:=xG.1 a;rfl
theorem qVF(s:Tw)(f:Int)(l:List jd):(cm s f l).map jb.v=(List.range l.length).map fun i=>f+((i:Nat):Int):=by
 refine xJ fun i=>?_
 rw[qv,mS,qv];by_cases h:i<l.length
 ·rw[qE h,List.getElem?_range h];rfl
 ·rw[xX (by omega),xX (by rw[List.length_range];omega)];rfl
def uN(p:Tw):List jb:=cm (bgS p) (bgF p) (bgL p)
def jn(l:List Rec):List jb:=l.flatMap fun x=>uN x.2
theorem Dc(l:List Rec)(x:Rec):jn (l++[x])=jn l++uN x.2:=by unfold jn;rw[List.flatMap_append];simp
theorem nd: ∀(l:List Rec),(∀x∈l,vZ x.2=true)->(jn l).length<=8*l.length
 | [],_=>qK _
 | x::l,h=>by
   have ih:=nd l (fun y b=>h y (qF _ b));have e:jn (x::l)=uN x.2++jn l:=rfl;rw[e,qL,qu];obtain⟨-,-,-,-,-,a⟩:=dY (h x qC);obtain⟨-,-,-,f,-⟩:=bc.1 a;have:(uN x.2).length=(bgL x.2).length:=XZ _ _ _;omega
def ofT(s:Tw)(T:List jb):List jb:=T.filter fun x=>decide (x.s=s)
theorem XJ(s:Tw)(A B:List jb):ofT s (A++B)=ofT s A++ofT s B:=List.filter_append ..
theorem pC{s:Tw}{T:List jb}{x:jb}:x∈ofT s T↔x∈T/\x.s=s:=by unfold ofT;rw[qo,decide_eq_true_iff]
theorem Dd(s:Tw)(f:Int)(l:List jd):ofT s (cm s f l)=cm s f l:=List.filter_eq_self.2 fun x a=>qB (Db a)
theorem qVH{s t:Tw}(h:t≠s)(f:Int)(l:List jd):ofT s (cm t f l)=[]:=List.filter_eq_nil_iff.2 fun x a=>by rw[Db a];simpa using h
def uE(T:List jb):Prop:=∀s,(ofT s T).map jb.v=(List.range (ofT s T).length).map fun i=>((i:Nat):Int)
theorem uE.nil: uE []:=fun s=>rfl
theorem uE.snoc{T:List jb}(h:uE T)(s:Tw)(l:List jd):uE (T++cm s ((ofT s T).length:Nat) l):=by
 intro t;rw[XJ];by_cases e:s=t
 ·subst e;rw[Dd,List.map_append,h s,qVF,qL,XZ,List.range_add,List.map_append,List.map_map];congr 1
 ·rw[qVH e,List.append_nil];exact h t
theorem uE.at_{T:List jb}(h:uE T){s:Tw}{i:Nat}{x:jb}(a:(ofT s T)[i]? = some x):x.v=(i:Nat):=by
 have e:=congrArg (fun l=>l[i]?) (h s);simp only[List.getElem?_map]at e;have b:=(qO.1 a).1;rw[a,List.getElem?_range b]at e;exact qb e
theorem uE.xI{T:List jb}(h:uE T)(s:Tw):(ofT s T).Pairwise fun a b=>a.v<b.v:=by
 refine xY.2 fun i j f g k=>?_
 rw[h.at_ (qE f),h.at_ (qE g)];omega
theorem uE.zT{T:List jb}(h:uE T):T.Pairwise fun a b=>a.s=b.s->a.v<b.v:=by
 refine xY.2 fun i j g l k e=>?_
 have f:=List.pairwise_filter.1 (h.xI T[j].s);have:=xY.1 f i j g l k;exact this (qB e) (qB rfl)
theorem KE: ∀ {a b:List jb},a.Pairwise (fun x y=>x.v<y.v)->b.Pairwise (fun x y=>x.v<y.v)->(∀y,y∈a↔y∈b)->a=b
 | [],[],_,_,_=>rfl
 | [],y::b,_,_,h=>absurd ((h y).2 qC) (by simp)
 | x::a,[],_,_,h=>absurd ((h x).1 qC) (by simp)
 | x::a,y::b,ha,hb,h=>by
   obtain⟨g,l⟩:=xU.1 ha;obtain⟨i,o⟩:=xU.1 hb
   have e:x=y:=by
    rcases qM.1 ((h x).1 qC) with k|k
    ·exact k
    ·rcases qM.1 ((h y).2 qC) with j|j
     ·exact j.symm
     ·have p:=i x k;have q:=g y j;omega
   subst e
   rw[KE l o fun z=>⟨fun f=>by
    rcases qM.1 ((h z).1 (qF _ f)) with k|k
    ·subst k;have:=g z f;omega
    ·exact k,fun f=>by
    rcases qM.1 ((h z).2 (qF _ f)) with k|k
    ·subst k;have:=i z f;omega
    ·exact k⟩]
def kv(s:Tw)(a b:Int)(T:List jb):List jb:=(ofT s T).filter fun x=>decide (a<=x.v/\x.v<=b)
theorem pD{s:Tw}{a b:Int}{T:List jb}{x:jb}:x∈kv s a b T↔x∈ofT s T/\a<=x.v/\x.v<=b:=by unfold kv;rw[qo,decide_eq_true_iff]
theorem Df{T:List jb}(h:uE T)(s:Tw)(a b:Int):kv s a b T=((ofT s T).drop a.toNat).take ((b+1).toNat-a.toNat):=by
 refine KE (List.Pairwise.filter _ (h.xI s)) ((h.xI s).sublist ((List.take_sublist _ _).trans (List.drop_sublist _ _))) fun x=>?_
 rw[pD];constructor
 ·rintro ⟨g,k,l⟩;obtain⟨i,f⟩:=ql g;have:=h.at_ f;refine qN (i:=i-a.toNat) ?_;rw[List.getElem?_take,qV (by omega),List.getElem?_drop,show a.toNat+(i-a.toNat)=i by omega];exact f
 ·intro j;obtain⟨i,f⟩:=ql j;rw[List.getElem?_take]at f;split at f
  ·rw[List.getElem?_drop]at f;have:=h.at_ f;exact⟨qN f,by omega,by omega⟩
  ·cases f
def sk(l:List Rec)(q:Nat):Tw:=((l.find? fun x=>decide (x.1=q)).map (·.2)).getD ByteArray.empty
theorem KF{l:List Rec}(f:bC l){i j:Nat}{x y:Rec}(g:l[i]? = some x)(k:l[j]? = some y)(h:x.1<=y.1):i<=j:=by
 rcases qd j i with c|c
 ·obtain⟨a,rfl⟩:=qO.1 g;obtain⟨b,rfl⟩:=qO.1 k;have:=xY.1 f j i b a c;unfold vV at this;omega
 ·exact c
theorem Dh{l:List Rec}(f:bC l){x y:Rec}(g:x∈l)(k:y∈l)(h:x.1=y.1):x=y:=by
 obtain⟨i,b⟩:=ql g;obtain⟨j,a⟩:=ql k;have o:=KF f b a (by omega);have p:=KF f a b (by omega);obtain rfl:i=j:=by omega
 rw[b]at a;exact qb a
theorem qVI{l:List Rec}(i:bC l){x:Rec}(b:x∈l):sk l x.1=x.2:=by
 unfold sk;cases a:l.find? fun y=>decide (y.1=x.1) with
 | none =>
   have:=List.find?_eq_none.1 a x b;simp at this
 | some y =>
   have f:=List.find?_some a;have g:=List.mem_of_find?_eq_some a;have:y=x:=Dh i g b (of_decide_eq_true f);rw[this];rfl
def pE: jd:=⟨ByteArray.empty,ByteArray.empty,0⟩
def uw(l:List Rec)(s:Tw)(e:jI):List jb:=if bgS (sk l e.p.toNat)=s then [⟨s,e.v,(bgL (sk l e.p.toNat)).getD (e.v-bgF (sk l e.p.toNat)).toNat pE⟩] else []
theorem sy{seed:Nat}{l:List Rec}{e:jI}(h:e∈yI seed l):∃x∈l,∃i,i<(bgL x.2).length/\e=⟨kx seed (bgS x.2).data.toList,bgF x.2+(i:Nat),(x.1:Nat)⟩:=by
 obtain⟨x,f,a⟩:=mR.1 h;unfold yV at a;obtain⟨i,b,rfl⟩:=qP.1 a;exact⟨x,f,i,List.mem_range.1 b,rfl⟩
theorem su{seed:Nat}{l:List Rec}(a:bC l){x:Rec}(b:x∈l)(s:Tw){i:Nat}(hi:i<(bgL x.2).length)(h:Nat):
  uw l s ⟨h,bgF x.2+(i:Nat),(x.1:Nat)⟩=if bgS x.2=s then [⟨s,bgF x.2+(i:Nat),(bgL x.2).getD i pE⟩] else []:=by
 unfold uw;simp only[Int.toNat_natCast];rw[qVI a b,show(bgF x.2+(i:Int)-bgF x.2).toNat=i by omega]
theorem XK{p:Tw}{i:Nat}(hi:i<(bgL p).length):(⟨bgS p,bgF p+(i:Nat),(bgL p).getD i pE⟩:jb)∈uN p:=by
 refine qN (i:=i) ?_;unfold uN;rw[mS,qE hi];simp[List.getD_eq_getElem?_getD,List.getElem?_eq_getElem hi]
theorem qVL{seed:Nat}{l:List Rec}(u:bC l)(Y:uE (jn l)){R:List jI}(hR:kY R)(s:Tw)(a b:Int)
  (B:∀y,y∈R↔y∈yI seed l/\y.h=kx seed s.data.toList/\a<=y.v/\y.v<=b):R.flatMap (uw l s)=kv s a b (jn l):=by
 refine KE (List.pairwise_flatMap.2 ⟨fun e U=>?_, ?_⟩) (List.Pairwise.filter _ (Y.xI s)) fun x=>?_
 ·unfold uw;split
  ·exact List.pairwise_singleton _ _
  ·exact List.Pairwise.nil
 ·have V:=Y.zT;unfold jn at V;have aa:=(List.pairwise_flatMap.1 V).2;refine List.Pairwise.imp_of_mem (R:=fun x y=>jm x y=true) (fun {p q} m1 m2 I x f y k=>?_) hR;obtain⟨J,P,-,-⟩:=(B p).1 m1;obtain⟨n2,F,-,-⟩:=(B q).1 m2;obtain⟨o,j,i1,g,rfl⟩:=sy J;obtain⟨r2,k2,i2,Z,rfl⟩:=sy n2;rw[su (seed:=seed) u j s g]at f;rw[su (seed:=seed) u k2 s Z]at k;split at f
  ·split at k
   ·rename_i K q2;rw[qH.1 f,qH.1 k];simp only;rw[mZ]at I;simp only at I P F;rcases I with c|⟨-,c|⟨c1,c2⟩⟩
    ·omega
    ·exact c
    ·exfalso;obtain⟨N,p⟩:=ql j;obtain⟨O,q⟩:=ql k2;have ab:N<=O:=KF u p q (by omega);have ac:N≠O:=fun e=>by rw[e,q]at p;obtain rfl:=qb p;omega
     obtain⟨h1,f1⟩:=qO.1 p;obtain⟨z,f2⟩:=qO.1 q;have:=xY.1 aa N O h1 z (by omega);rw[f1,f2]at this;have:=this _ (XK g) _ (XK Z) (by rw[K,q2]);simp only at this;omega
   ·cases k
  ·cases f
 ·rw[xV,pD,pC];constructor
  ·rintro ⟨e,U,f⟩;obtain⟨J,P,F,g3⟩:=(B e).1 U;obtain⟨o,j,i1,g,rfl⟩:=sy J;rw[su (seed:=seed) u j s g]at f;split at f
   ·rename_i K;have X:=XK g;rw[K]at X;rw[qH.1 f];exact⟨⟨xV.2 ⟨o,j,X⟩,rfl⟩,F,g3⟩
   ·cases f
  ·rintro ⟨⟨f,C⟩,z,Q⟩;obtain⟨o,j,f⟩:=xV.1 f;obtain⟨i,G⟩:=ql f;unfold uN at G;rw[mS]at G;obtain⟨y,k,rfl⟩:=xG.1 G;have g:=(qO.1 k).1;simp only at C z Q;refine⟨⟨kx seed (bgS o.2).data.toList,bgF o.2+(i:Nat),(o.1:Nat)⟩,(B _).2 ⟨mR.2 ⟨o,j, ?_⟩,by rw[<-C],z,Q⟩, ?_⟩
   ·exact qP.2 ⟨i,List.mem_range.2 g,rfl⟩
   ·rw[su (seed:=seed) u j s g,qV C,qj,k,C];exact qH.2 rfl
def bw(s:Tw)(T:List jb):Int:=((ofT s T).length:Nat)-1
theorem qVM{T:List jb}(h:uE T){s:Tw}{a b:Int}(j:∀x∈ofT s T,x.v<=b){x:jb}(z:(kv s a b T).getLast? = some x):x.v=bw s T:=by
 have e:kv s a b T=(ofT s T).filter fun x=>decide (a<=x.v):=List.filter_congr fun y g=>by
  have:=j y g;exact decide_eq_decide.2 ⟨fun k=>k.1,fun k=>⟨k,this⟩⟩
 have p:x∈kv s a b T:=List.mem_of_getLast? z;obtain⟨i,o⟩:=ql (pD.1 p).1;have G:=h.at_ o;have F:=(qO.1 o).1;unfold bw;rcases qd (i+1) (ofT s T).length with c|c
 ·exfalso;have C:=qE (l:=ofT s T) (i:=(ofT s T).length-1) (by omega);have g:=h.at_ C;have q:(ofT s T)[(ofT s T).length-1]∈kv s a b T:=pD.2 ⟨List.getElem_mem _,by have:=(pD.1 p).2.1;omega,j _ (List.getElem_mem _)⟩;obtain⟨f,B⟩:=List.getLast?_eq_some_iff.1 z;have u:(kv s a b T).Pairwise fun x y=>x.v<y.v:=List.Pairwise.filter _ (h.xI s)
  rw[B]at u q;rcases qD.1 q with k|k
  ·have:=(List.pairwise_append.1 u).2.2 _ k x qC;omega
  ·rw[qH.1 k]at g;omega
 ·omega
end
section
open Go.RowKit
def sg(x:jb):List Value:=[.string x.s,.int .i64 x.v,.string x.e.t,.string x.e.d,.float .f64 x.e.b]
abbrev bL(x:jb):Array Value:=#[.string x.s,.int .i64 x.v,.string x.e.t,.string x.e.d,.float .f64 x.e.b]
def gQ(l:List jb):List Value:=l.flatMap sg
theorem KH: ∀l:List jb,(gQ l).length=l.length*5
 | []=>rfl
 | x::l=>by
   unfold gQ;rw[List.flatMap_cons,qL];have:=KH l;unfold gQ at this;rw[this,qu];show 5+_=_;omega
theorem mT: ∀(l:List jb) (i:Nat) (x:jb),l[i]? = some x->∀j,j<5->(gQ l)[i*5+j]? = (sg x)[j]?
 | [],i,x,h=>by simp at h
 | y::l,0,x,h=>by
   intro j a;obtain rfl:y=x:=(by simpa using h);unfold gQ;rw[List.flatMap_cons,Nat.zero_mul,qe,List.getElem?_append_left (by exact a)]
 | y::l,i+1,x,h=>by
   intro j a;have b:l[i]? = some x:=(by simpa using h);have e:(i+1)*5+j=5+(i*5+j):=(by omega);have:=mT l i x b j a;unfold gQ at*;rw[List.flatMap_cons,e,List.getElem?_append_right (by show 5<=_;omega)];show(l.flatMap sg)[5+(i*5+j)-5]? = _;rw[Nat.add_sub_cancel_left];exact this
theorem qVN{l:List jb}:∀u∈gQ l,u.oneCell'=true:=by
 intro u b;unfold gQ at b;obtain⟨f,_,a⟩:=xV.1 b;simp only[sg,List.mem_cons,List.not_mem_nil,or_false]at a;rcases a with rfl|rfl|rfl|rfl|rfl<;>rfl
theorem qVO(a b:List jb):gQ (a++b)=gQ a++gQ b:=by unfold gQ;rw[List.flatMap_append]
def fv(w:World)(v:Value)(l:List jb):Prop :=
 (l=[]/\∃a c,v=.slice a 0 c)∨∃b off f,v=.slice (some ⟨b,off,none⟩) l.length f/\l.length<=f/\f<=maxLen/\b<w.1.size /\
  ∀i x,l[i]? = some x->∀j u,(sg x)[j]? = some u->w.cell? ⟨b,off+(i*5+j),none⟩=some u
theorem fv.form{w:World}{v:Value}{l:List jb}(h:fv w v l):∃A off j,v=.slice A l.length j/\l.length<=maxLen /\
  ∀i x,l[i]? = some x->∃b,A=some ⟨b,off,none⟩/\b<w.1.size/\w.cell? ⟨b,off+i*5,none⟩=some (.string x.s)/\w.cell? ⟨b,off+i*5+1,none⟩=some (.int .i64 x.v)/\w.cell? ⟨b,off+i*5+2,none⟩=some (.string x.e.t) /\
   w.cell? ⟨b,off+i*5+3,none⟩=some (.string x.e.d)/\w.cell? ⟨b,off+i*5+4,none⟩=some (.float .f64 x.e.b):=by
 rcases h with⟨rfl,a,c,rfl⟩|⟨b,off,j,rfl,o,p,k,f⟩
 ·exact⟨a,0,c,rfl,qI _,fun i x h=>by simp at h⟩
 ·exact⟨some ⟨b,off,none⟩,off,j,rfl,by omega,fun i x g=>⟨b,rfl,k,f i x g 0 _ rfl,f i x g 1 _ rfl,f i x g 2 _ rfl,f i x g 3 _ rfl,f i x g 4 _ rfl⟩⟩
abbrev kI(w:World)(base:Nat)(v:Value)(l:List jb):Prop:=w.ownsRow base 66 5 v l.length (gQ l)
theorem kI.xH{w:World}{base:Nat}{v:Value}{l:List jb}(h:kI w base v l):fv w v l:=by
 have b:=h;rcases h.2 with⟨a,p⟩|⟨g,o,C,a,F,q,B,z,I,J⟩
 ·exact qX ⟨xK.1 p,none,0,a⟩
 ·by_cases y:l=[]
  ·subst y;exact qX ⟨rfl,_,_,a⟩
  ·refine qY ⟨g,0,o,a,B,z,(qn.1 q).1,fun i x k j u f=>?_⟩;have G:i<l.length:=(qO.1 k).1;have s:j<5:=(by have:=(qO.1 f).1;exact this);rw[a]at b;rw[qe];exact(b.cellAt (i*5+j) (by omega)).trans ((mT l i x k j s).trans f)
theorem kI.below{w w':World}{base B:Nat}{v:Value}{l:List jb}(h:kI w base v l)(b:Below B w w')(a:w.1.size<=B):kI w' base v l:=oz h b a
theorem kI.nil(w:World)(base:Nat):kI w base (.slice none 0 0) []:=World.ownsRow_nil _ _ _ _
theorem kI.own{w:World}{base:Nat}{v:Value}{l:List jb}(h:kI w base v l):∀b∈jS v,base<=b/\b<w.1.size:=fun b a=>h.lt b (ja.1 a)
theorem jM.x8{E:List Nat}{w w':World}{base:Nat}{v:Value}{l:List jb}(h:jM E w w')(a:kI w base v l)(o:∀b∈jS v,b∈E):kI w' base v l:=by
 refine⟨a.1, ?_⟩;rcases a.2 with k|⟨g,i,j,f,p,q,r⟩
 ·exact qX k
 ·exact qY ⟨g,i,j,f,p,(h.block g (o g (ja.2 (by rw[f];rfl)))).trans q,r⟩
theorem qVP: (prog.info? 66).map (fun i=>(i.zero,i.size,i.bytes))=some (some (.agg #[.string ByteArray.empty,.int .i64 0,.string ByteArray.empty,.string ByteArray.empty,.float .f64 0]),5,64):=by kernel_rfl
theorem fv.src{w:World}{v:Value}{l:List jb}(h:fv w v l):fX w 5 v l.length (gQ l):=by
 refine⟨KH l, ?_⟩;rcases h with⟨rfl,a,c,rfl⟩|⟨b,off,k,rfl,s,y,z,p⟩
 ·cases a with
  | none=>exact qX ⟨c,rfl,rfl⟩
  | some a=>exact qY ⟨a,c,rfl,fun j u f=>by cases f⟩
 ·refine qY ⟨⟨b,off,none⟩,k,rfl,fun j u f=>?_⟩;have B:j<l.length*5:=by have:=(qO.1 f).1;rw[KH]at this;exact this
  have q:j/5<l.length:=by omega
  have i:l[j/5]? = some l[j/5]:=qE q;have e:j/5*5+j%5=j:=by omega
  have g:=mT l (j/5) _ i (j%5) (by omega);rw[e,f]at g;have:=p (j/5) _ i (j%5) u g.symm;rw[e]at this;have o:(⟨b,off,none⟩:Addr).add j=⟨b,off+j,none⟩:=by unfold Addr.add;split<;>simp_all
  rw[o];exact this
theorem Dl(w:World)(x:jb):fv (w.alloc (.cells (bL x) 66)) (.slice (some ⟨w.1.size,0,none⟩) 1 1) [x]:=by
 have B:=jN.new w 66 (bL x);refine qY ⟨w.1.size,0,1,rfl,qK _,by unfold maxLen;omega,by simp,fun i y b j u a=>?_⟩
 match i,b with
 | 0,b =>
   obtain rfl:x=y:=by simpa using b
   match j,a with
   | 0,a=>rw[<-a];exact B.cell 0
   | 1,a=>rw[<-a];exact B.cell 1
   | 2,a=>rw[<-a];exact B.cell 2
   | 3,a=>rw[<-a];exact B.cell 3
   | 4,a=>rw[<-a];exact B.cell 4
theorem KI{w:World}{base:Nat}{a b:Value}{l m:List jb}(q:kI w base a l)(s:fv w b m)(B:l.length+m.length<=1000000)(o:base<=w.1.size)(g:TypeId):
  ∃A c w',(Builtin.append_ #[36,36] g #[a,b]).run prog w=.ok (.slice A (l.length+m.length) c) w'/\kI w' base (.slice A (l.length+m.length) c) (l++m)/\w.grownBy w' a.ownBlock/\((Value.slice A (l.length+m.length) c).ownBlock=a.ownBlock∨(Value.slice A (l.length+m.length) c).ownBlock=some w.1.size):=by
 obtain⟨z,p,u,v,y⟩:=info_parts qVP;obtain⟨C,w',i,f,j,k⟩:=fg (P:=prog) w base 36 66 z _ 5 64 g Tryz.underlying36 p u v y rfl (by decide) a l.length (gQ l) q b m.length (gQ m) s.src qVN (by unfold maxLen;omega) (by omega) o;obtain⟨A,c,rfl,-,-,-⟩:=vl f;refine⟨A,c,w',i, ?_,j,k⟩;unfold kI;rw[qVO,qL];exact f
end
section
open Go.RowKit Go.Shelf
theorem qVR{w:World}{base i n c:Nat}{A:Option Addr}{l:List Int}{x:Int}(h:jy w base (.slice A n c) l)(a:l[i]? = some x):∃b,A=some ⟨b,0,none⟩/\w.cell? ⟨b,i,none⟩=some (.int .i64 x):=by
 have y:=(qO.1 a).1;obtain⟨j,k,e,p,q,g,s⟩:=vl h;obtain⟨rfl,rfl,o⟩:=Value.slice.inj e;obtain⟨b,rfl,u,v⟩:=g (by omega);have f:w.ownsRow base 3 1 (.slice (some ⟨b,0,none⟩) l.length c) l.length _:=h;refine⟨b,rfl,(f.cellAt i (by omega)).trans ?_⟩;show(l.map _)[i]? = _;rw[qv,a];rfl
def qVS(At:j6)(w0:World)(gd r:Nat)(m:ji)(D:jL)(E:List Nat)(w:World)(e:Ending)(w':World):Prop :=
 (∃gx T j,e=.returned (.tuple #[ptr gx,.int .i64 0])/\T.map (fun t=>(t.n:Int))=m.lv.flatten/\(∀t∈T,vo D t.n t.l/\bu t.t t.l=true)/\j<=2*m.lv.flatten.length/\js At w0 gd gx r ⟨m,T,[]⟩ { D with count:=D.count+j } E w'/\jM E w w') ∨
 (∃n j,n∈m.lv.flatten/\kS D n≠0/\j<=2*m.lv.flatten.length/\e=.returned (.tuple #[.pointer none,err (kS D n)])/\DS At w0 gd { D with count:=D.count+j } E w'/\jM E w w')
section
variable {At:j6}(api:j8 At)(nap:kZ){w0 w:World}{gd r:Nat}{D:jL}{E:List Nat}{n c:Int}{d:Nat}{A:Option Addr}{cp:Nat}{R:LvL}
include api
def XV(At:j6)(w0:World)(gd gx r gm:Nat)(m:ji)(lv:Value)(a:Value)(D:jL)(E:List Nat)(w:World)(k:Nat)(tv:Value)(wr:World):Prop :=
 ∃ps T Gk j,pW At w0 gd gx r gm m lv tv ps T Gk { D with count:=D.count+j } (jS a++E) wr/\T.map (fun t=>(t.n:Int))=m.lv.flatten.take k/\(∀t∈T,vo D t.n t.l/\bu t.t t.l=true)/\j<=2*k/\jM E w wr/\jy wr w.1.size a m.lv.flatten
theorem qVT{w1 w2 g j w5:World}{m:ji}{v:Value}{G u:Nat}{A2:Option Addr}{i:Value}(h:DS At w0 gd D E w)(a:Below w.1.size w (w.alloc (vq n c d v)))(I:Below (w.alloc (vq n c d v)).1.size (w.alloc (vq n c d v)) w1)(J:Below w1.1.size w1 w2)
  (X:vB w2 w1.1.size (.slice A2 G u) m.lv) (y:Below w2.1.size w2 g) (F:vE g w2.1.size w2.1.size [w2.1.size] []) (Q:w2.1.size<g.1.size)
  (Z:jN j g.1.size 111 #[.pointer none,ptr gd,m.next,m.check,.int .u64 (m.seed:Nat),.slice A2 G u,.slice none 0 0,.float .f64 r,mtp w2.1.size]) (z:Below g.1.size g j) (hz:j.1.size=g.1.size+1) (K:jy w5 j.1.size i m.lv.flatten) (l:Below j.1.size j w5):
  XV At w0 gd g.1.size r w2.1.size m (.slice A2 G u) i D E w 0 (.slice none 0 0) w5:=by
 obtain⟨k,o,Y⟩:=X.keep;have s0:=a.size;have s1:=I.size;have s2:=J.size;have s3:=y.size;have s5:=l.size;have N:=bj a (bj I (bj J (bj y (bj z l))));have s:∀b∈jS i,j.1.size<=b/\b<w5.1.size:=fun b a=>K.lt b (ja.1 a)
 have p:=h.lt;have aa:=h.kept.size;have C:jS (.slice none 0 0)=[]:=rfl;have k2:=jM.xA (E:=k) (bj y (bj z l)) (fun b a=>(o b a).2);have k3:=jM.xA (E:=[w2.1.size]) (bj z l) (fun b a=>by rw[qH.1 a];exact Q)
 have P:DS At w0 gd D ([w2.1.size]++((g.1.size::jS (.slice none 0 0))++(k++(jS i++E)))) w5:=by
  refine((h.more api N (B:=[w2.1.size]++([g.1.size]++(k++jS i))) (fun b a=>?_)).less (fun b a=>?_))
  ·rcases qD.1 a with q|q
   ·rw[qH.1 q];omega
   ·rcases qD.1 q with q|q
    ·rw[qH.1 q];omega
    ·rcases qD.1 q with q|q
     ·have:=o b q;omega
     ·have:=s b q;omega
  ·rw[C]at a;simp only[List.mem_append,List.mem_cons,List.not_mem_nil,or_false]at a ⊢;rcases a with q|q|q|q|q<;>simp[q]
 have O:∀b∈k,b ∉ jS i++E:=fun b a f=>by
  have:=o b a;rcases qD.1 f with q|q
  ·have:=s b q;omega
  ·have:=p b q;omega
 have V:g.1.size ∉ jS i++E:=fun f=>by
  rcases qD.1 f with q|q
  ·have:=s _ q;omega
  ·have:=p _ q;omega
 have U:w2.1.size ∉ jS i++E:=fun f=>by
  rcases qD.1 f with q|q
  ·have:=s _ q;omega
  ·have:=p _ q;omega
 refine⟨[],[],k,0,⟨P,Z.below l,(Y.step k2),yK.nil _ _,(uy.nil _ _).more (fun b a=>by cases a),(F.keep (E:=[w2.1.size]) k3 (fun b a=>a)).low (by omega),⟨?_, ?_,U⟩, ?_,O,by omega⟩,by simp,(fun t F=>by cases F),qK _,jM.xA N p,K.down (by omega)⟩
 ·rw[C];intro f;have:=qH.1 f;omega
 ·intro f;have:=o _ f;omega
 ·rw[C];intro b a;rw[qH.1 a];exact⟨fun f=>by have:=o _ f;omega,V⟩
include nap in
theorem qV0(h:DS At w0 gd D E w)(G:WfP D)(z:D.down=false)(hc:D.count<=999990000)(hv:km w (.slice A R.length cp) R)(B:kF ⟨n,c,d,R⟩)(aN:∀x∈R.flatten,kS D x=0->(tgL (rdW D (ptT x)).1).length<=10000):
  Calls prog 133 #[ptr gd,kD n c d (.slice A R.length cp),.float .f64 r] w (qVS At w0 gd r ⟨n,c,d,R⟩ D E w):=by
 have aI:R.flatten.length<=40:=B.2.2.2.2.1.2.1;have a2:R.length<=5:=B.2.2.2.2.1.1;have ar:∀x∈R.flatten,0<=x/\x<1000000:=fun x f=>⟨B.2.2.2.2.1.2.2.1 x f,by have:=B.2.2.2.2.2 x f;have:=B.2.1;show x<1000000;simp only at*;omega⟩
 have a:=(qG w.1.size w).alloc (qK _) (vq n c d (.slice A R.length cp));have aH:jN (w.alloc (vq n c d (.slice A R.length cp))) w.1.size 47 #[n,c,.int .u64 (d:Nat),.slice A R.length cp]:=jN.new _ _ _;have ad:=qQ aH;have HB:=qQ a;have HS:=qQ ((h.below api a).size api G ⟨#[]⟩ (by decide));have ai:=hv.below a (qK _);have Y:=qQ (Jd n c d A R.length cp R _ ai (by omega) (by omega));have P:=qQ (fun W (hW:Below (w.alloc (vq n c d (.slice A R.length cp))).1.size (w.alloc (vq n c d (.slice A R.length cp))) W)=>DK n c d A cp R W (ai.below hW (qK _)) (by omega) (by omega));have I:=qQ (fun W (hW:Below (w.alloc (vq n c d (.slice A R.length cp))).1.size (w.alloc (vq n c d (.slice A R.length cp))) W)=>nR _ R W (ai.below hW (qK _)) (by omega) (by omega));have e1:fA ⟨n,c,d,R⟩=true:=qB B;rw[e1]at Y
 have hz:(((j9 D ⟨#[]⟩).2:Int)==1)=false/\(((j9 D ⟨#[]⟩).2:Int)==61)=false:=by
  rcases tL D ⟨#[]⟩ with⟨q,-⟩|⟨-,e|e⟩
  ·rw[z]at q;cases q
  ·rw[e];exact⟨by decide,by decide⟩
  ·rw[e];exact⟨by decide,by decide⟩
 obtain⟨ba,bb⟩:=hz;have a6:=qQ G
 have aY:=qQ (fun(W:World) (E':List Nat) (j:Nat) (x:Int) (hj:j<=80) (f:x∈R.flatten) (hW:DS At w0 gd { D with count:=D.count+j } E' W)=>(show Calls prog 179 #[ptr gd,.int .i64 x] W (sR At w0 gd x { D with count:=D.count+j } E' W) from by
  have:=ar x f;have hs:=Qo D (D.count+j) (ptT x) z;refine DY api nap hW ⟨G.synced,G.used,G.cap,G.many⟩ (by show D.count+j<=_;omega) x (WalkArith.wf_i64 (by omega)) (fun ho=>?_);rw[hs.1];exact aN x f ((KW D _ x z).1.symm.trans ho)))
 have aV:=qQ ar;have aA:=qQ (fun k x=>KW D k x z);have aZ:=qQ (fun k x=>Qo D k (ptT x) z);have ay:=qQ (fun x (f:kS D x=0)=>qKp z f);have HD:=qQ h;obtain⟨l,aq⟩:∃l,l=R.length:=⟨_,rfl⟩
 unfold lP at P;unfold kD at Y P ⊢;rw[<-aq]at Y HS HB ad P I ⊢;have a5:=qQ aq;obtain⟨ns,ah⟩:∃ns,ns=R.flatten:=⟨_,rfl⟩
 have o:=qQ ah;unfold bN at I;obtain⟨N,hN⟩:∃N,N=ns.length:=⟨_,rfl⟩
 have a8:N<=40:=by rw[hN,ah];exact aI
 have U:=qQ hN;rw[<-ah]at I;rw[<-hN]at I;clear h a aH hv ai aq a2 aI ar G B aN e1 z ah hN;generalize (j9 D ⟨#[]⟩).2=z2 at*;generalize (j9 D ⟨#[]⟩).1=z1 at*;go_enter func133,ntmps133;go_wp2_with fail;refine X5 HS.out ?_;go_wp2_with fail;refine KG Y.out fun w1 ao=>?_;have O:=qQ ao;have B1:=qQ (ad.out.below ao);obtain⟨c0,c1,c2,c3⟩:=mM B1.out;clear ao;go_wp2_with fail;refine(P.out w1 O.out).mono ?_;rintro e F⟨u,y,rfl,aM,aF⟩;have az:=qQ aM;have aa:=qQ aF;clear aM aF;go_wp2_with fail;refine(R9 F).mono ?_;rintro e s⟨rfl,aQ,aG,aJ⟩;have aB:=qQ aQ;have ab:=qQ aG;have ax:=qQ aJ;clear aQ aG aJ;have aw:=qQ (bj O.out (bj aa.out ab.out));have ap:=(qG s.1.size s).alloc (qK _) (.cells #[.pointer none,ptr gd,n,c,.int .u64 (d:Nat),.slice u l y,.slice none 0 0,.float .f64 r,mtp F.1.size] 111);have am:=qQ (jN.new s 111 #[.pointer none,ptr gd,n,c,.int .u64 (d:Nat),.slice u l y,.slice none 0 0,.float .f64 r,mtp F.1.size]);have ac:=qQ ap;have ak:=qQ (I.out _ (bj aw.out ac.out));have aP:(s.alloc (.cells #[.pointer none,ptr gd,n,c,.int .u64 (d:Nat),.slice u l y,.slice none 0 0,.float .f64 r,mtp F.1.size] 111)).1.size=s.1.size+1:=by simp
 have al:=qQ aP;have a1:=(((ad.out.below (bj O.out aa.out)).below ab.out).below ap).cell 3;obtain⟨w4,au⟩:∃w4,w4=s.alloc (.cells #[.pointer none,ptr gd,n,c,.int .u64 (d:Nat),.slice u l y,.slice none 0 0,.float .f64 r,mtp F.1.size] 111):=⟨_,rfl⟩
 rw[<-au]at am ac ak al;clear aP ap c0 c1 c2 c3 I P Y HS;have aC:=qQ au;clear au;go_wp2_with fail;rw[<-aC.out];refine ak.out.mono ?_;rintro e w5⟨A7,c7,rfl,r7,b7⟩;have ae:Hid (XV At w0 gd s.1.size r F.1.size ⟨n,c,d,R⟩ (.slice u l y) (.slice A7 N c7) D E w 0 (.slice none 0 0) w5):=qQ (qVT api HD.out (by rw[o.out,<-U.out]at*;exact HB.out) O.out aa.out az.out ab.out aB.out ax.out am.out ac.out al.out (by rw[<-o.out];exact r7) b7);clear a1 ad HB O B1 aa az ab aB ax am ac al aw ak aC r7 b7 HD;generalize s.1.size=gx at*;generalize F.1.size=gm at*;go_wp2;go_loopg [43] N (fun g i wr=>∃(k:Nat) (tv:Value),k+g=N/\i=.int .i64 k/\XV At w0 gd gx r gm ⟨n,c,d,R⟩ (.slice u l y) (.slice A7 N c7) D E w k tv wr)
 case atStart=>exact⟨0,_,by omega,rfl,ae.out⟩
 case round =>
  obtain⟨k,tv,a_,rfl,hL⟩:=hrel;have HL:=qQ hL;clear hL ae;cases gk with
  | zero =>
    obtain rfl:k=N:=(by omega);have s1:¬(k:Int)<(k:Int):=(by omega);obtain⟨ps,T,Gk,j,p,hT,hH,hj,hK,hR⟩:=HL.out;have v:=qQ (p.made api);have f0:=p.xW.frozen 0;have q0:=p.xW.cell 0;have X:=qQ (show T.map (fun t=>(t.n:Int))=R.flatten from by rw[hT];show List.take k R.flatten=_;rw[<-o.out,U.out,List.take_length]);have HH:=qQ hH;have Q:=qQ hK;have HJ:Hid (j<=2*R.flatten.length):=qQ (by rw[<-o.out,<-U.out];exact hj);clear p hT hH hj hK hR HL;go_wp2;go_ret2;exact qX ⟨gx,T,j,rfl,X.out,HH.out,HJ.out,v.out.1.less (fun b a=>qJ _ a),Q.out.trans (v.out.2.less (fun b a=>qJ _ a))⟩
  | succ gi =>
    have a3:k<N:=(by omega);have s1:(k:Int)<(N:Int):=(by omega);obtain⟨ps,T,Gk,j,p,hT,hH,hj,hK,hR⟩:=HL.out;have a4:k<ns.length:=(by rw[<-U.out];exact a3);obtain⟨x,f⟩:∃x,ns[k]? = some x:=⟨_,qE a4⟩
    have av:x∈R.flatten:=(by rw[<-o.out];exact qN f);obtain⟨bp,rfl,qc⟩:=qVR hR (i:=k) (x:=x) (by show R.flatten[k]? = _;rw[<-o.out];exact f);have V:=aY.out wr _ j x (by omega) av p.ds;unfold sR at V;rw[(aA.out (D.count+j) x).1,(aZ.out (D.count+j) x).1]at V;obtain⟨j2,a9,e2⟩:=(aA.out (D.count+j) x).2;rw[e2]at V;have af:=qQ V;have HX:=qQ av;have a0:=qQ f;have v:=qQ p;have X:=qQ hT;have HH:=qQ hH;have Q:=qQ hK;have HR:=qQ hR;clear p hT hH hK hR V f av e2 HL;by_cases C:kS D x=0
    ·have J:=af.out.mono (fun e w' h=>(h.resolve_right (fun q=>q.1 C)).2);have aL:=UJ (rdW { D with count:=D.count+j } (ptT x)).2.2 x (tgL (rdW D (ptT x)).1);have aK:=ay.out x C;generalize ldF (rdW { D with count:=D.count+j } (ptT x)).2.2 x (tgL (rdW D (ptT x)).1)=ft at*;generalize tgL (rdW D (ptT x)).1=fl at*;unfold sO at J;have ag:=qQ J;have aU:=qQ aL;have aS:=qQ aK;clear J aL aK C af ay;go_wp2_with fail;refine ag.out.mono ?_;rintro e w5⟨gt,H,rfl,hp,Z,K,n5⟩;have c6:=(K.xW v.out.xW (qJ _ (qW _ qC))).cell 6;have aj:=(aV.out x HX.out).1
     have aO:ps.length<=10000:=by
      have h1:=v.out.xO.1;have h2:=congrArg List.length X.out;rw[qq,qT]at h2;omega
     obtain⟨A6,n6,a7,A9,c9,w9,rfl,e9,q9,f9,aE,an⟩:=v.out.next api (t:=⟨x.toNat,fl,ft⟩) Z K n5 (by show yS w5 gt gd ((x.toNat:Nat):Int) fl ft H;rw[Int.toNat_of_nonneg aj];exact hp) aO 108;have HE:=qQ e9
     have aD:XV At w0 gd gx r gm ⟨n,c,d,R⟩ (.slice u l y) (.slice (some ⟨bp,0,none⟩) N c7) D E w (k+1) (.slice A9 (n6+1) c9) (w9.setCell ⟨gx,6,none⟩ (.slice A9 (n6+1) c9)):=by
      refine⟨_,_,_,j+j2,by rw[<-Nat.add_assoc];exact aE, ?_,fun t ht=>?_,by omega,Q.out.trans (an.less (fun b a=>qJ _ a)),an.zx HR.out (fun b a=>qW _ a)⟩
      ·rw[List.map_append,X.out,xQ];show _=List.take k R.flatten++(R.flatten[k]?).toList;rw[<-o.out,a0.out];show _++[((x.toNat:Nat):Int)]=_;rw[Int.toNat_of_nonneg aj];rfl
      ·rcases qD.1 ht with q|q
       ·exact HH.out t q
       ·rw[qH.1 q];refine⟨?_,aU.out⟩;show vo D ((x.toNat:Nat):Int) fl;rw[Int.toNat_of_nonneg aj];exact aS.out
     have ae:=qQ aD;clear aE an e9 aD hp Z K n5 v X HH Q HR aj aO;go_wp2_with (first|(at_builtin;refine yC rfl _ _ rfl rfl rfl HE.out ?_)|fail);go_roundg gi
     case measure=>omega
     case rel=>exact⟨k+1,_,by omega,by go_num,ae.out⟩
    ·have t2:((kS D x:Int) != 0)=true:=(by simpa using C);have J:=af.out.mono (fun e w' h=>(h.resolve_left (fun q=>C q.1)).2);have aW:=qQ C;have ag:=qQ J;obtain⟨oe,ho⟩:∃oe,oe=kS D x:=⟨_,rfl⟩
     rw[<-ho]at ag t2;have aX:=qQ ho;clear J C af ho;go_wp2_with fail;refine ag.out.mono ?_;rintro e w5⟨rfl,Z,K⟩;have aR:=qQ Z;have aT:=qQ K;clear Z K;go_wp2;go_ret2;rw[aX.out];exact qY ⟨x,j+j2,HX.out,aW.out,by rw[<-o.out,<-U.out];omega,rfl,by rw[<-Nat.add_assoc];exact aR.out.less (fun b a=>qJ _ (qJ _ (qJ _ (qJ _ a)))),Q.out.trans (aT.out.less (fun b a=>qJ _ (qJ _ (qJ _ (qJ _ a)))))⟩
end
end
section
structure nf(D:jL)(S:IxS):Prop where
 map:(jT D.l j7).map jO.data=some (mfB S.m)
 has:∀t∈S.T,vo D t.n t.l
end
section
open Go.RowKit Go.Shelf
attribute [local go_sem] dK
theorem Dm: ∀(l:List jb) (k:Nat) (x:jb),k<l.length->gQ (l.set k x)=(((((gQ l).set (k*5) (.string x.s)).set (k*5+1) (.int .i64 x.v)).set (k*5+2) (.string x.e.t)).set (k*5+3) (.string x.e.d)).set (k*5+4) (.float .f64 x.e.b)
 | [],k,x,h=>absurd h (Nat.not_lt_zero _)
 | y::l,0,x,_=>rfl
 | y::l,k+1,x,h=>by
   have ih:=Dm l k x (by simpa using h);have e:(k+1)*5=k*5+5:=(by omega);unfold gQ at*;rw[List.set_cons_succ,List.flatMap_cons,List.flatMap_cons,ih,e];rfl
def mq(w:World)(g o:Nat)(x:jb):World:=((((w.setCell ⟨g,o,none⟩ (.string x.s)).setCell ⟨g,o+1,none⟩ (.int .i64 x.v)).setCell ⟨g,o+2,none⟩ (.string x.e.t)).setCell ⟨g,o+3,none⟩ (.string x.e.d)).setCell ⟨g,o+4,none⟩ (.float .f64 x.e.b)
theorem XY(w:World)(g o:Nat)(x:jb):jP [g] w (mq w g o x):=(((((jP.refl [g] w).setCell (p:=⟨g,o,none⟩) (qX qC) _).setCell (p:=⟨g,o+1,none⟩) (qX qC) _).setCell (p:=⟨g,o+2,none⟩) (qX qC) _).setCell (p:=⟨g,o+3,none⟩) (qX qC) _).setCell (p:=⟨g,o+4,none⟩) (qX qC) _
theorem kI.put{w:World}{base g n a k:Nat}{l:List jb}(h:kI w base (.slice (some ⟨g,0,none⟩) n a) l)(q:k<l.length)(x:jb):kI (mq w g (k*5) x) base (.slice (some ⟨g,0,none⟩) n a) (l.set k x):=by
 have u:n=l.length:=by
  obtain⟨A,c,e,-⟩:=vl h;exact(Value.slice.inj e).2.1
 subst u;have f:=(h.stored (k*5) (.string x.s)).1;have i:=(f.stored (k*5+1) (.int .i64 x.v)).1;have j:=(i.stored (k*5+2) (.string x.e.t)).1;have o:=(j.stored (k*5+3) (.string x.e.d)).1;have p:=(o.stored (k*5+4) (.float .f64 x.e.b)).1;unfold kI;rw[Dm l k x q,List.length_set];exact p
theorem kI.cells{w:World}{base n c k:Nat}{A:Option Addr}{l:List jb}(h:kI w base (.slice A n c) l){x:jb}(a:l[k]? = some x):∃g,A=some ⟨g,0,none⟩/\base<=g/\g<w.1.size/\(w.cell? ⟨g,k*5,none⟩=some (.string x.s)/\w.cell? ⟨g,k*5+1,none⟩=some (.int .i64 x.v)/\w.cell? ⟨g,k*5+2,none⟩=some (.string x.e.t)/\w.cell? ⟨g,k*5+3,none⟩=some (.string x.e.d)/\w.cell? ⟨g,k*5+4,none⟩=some (.float .f64 x.e.b)) /\
  (w.frozen? ⟨g,k*5,none⟩=false/\w.frozen? ⟨g,k*5+1,none⟩=false/\w.frozen? ⟨g,k*5+2,none⟩=false/\w.frozen? ⟨g,k*5+3,none⟩=false/\w.frozen? ⟨g,k*5+4,none⟩=false):=by
 have z:=(qO.1 a).1
 have j:n=l.length:=by
  obtain⟨o,p,e,-⟩:=vl h;exact(Value.slice.inj e).2.1
 subst j
 have i:∃g,A=some ⟨g,0,none⟩:=by
  rcases h.2 with⟨e,y⟩|⟨g,q,u,e,-⟩
  ·omega
  ·exact⟨g,(Value.slice.inj e).1⟩
 obtain⟨g,rfl⟩:=i;have f:=h.lt g rfl;refine⟨g,rfl,f.1,f.2,⟨?_, ?_, ?_, ?_, ?_⟩,h.frozenAt _,h.frozenAt _,h.frozenAt _,h.frozenAt _,h.frozenAt _⟩
 ·exact(h.cellAt (k*5) (by omega)).trans (mT l k _ a 0 (by omega))
 ·exact(h.cellAt (k*5+1) (by omega)).trans (mT l k _ a 1 (by omega))
 ·exact(h.cellAt (k*5+2) (by omega)).trans (mT l k _ a 2 (by omega))
 ·exact(h.cellAt (k*5+3) (by omega)).trans (mT l k _ a 3 (by omega))
 ·exact(h.cellAt (k*5+4) (by omega)).trans (mT l k _ a 4 (by omega))
def dw(l:List jb)(k:Nat)(R:List jb):Prop:=R.length=l.length/\∀m,m<l.length->R[m]? = if m<k∨l.length-k<=m then l[l.length-1-m]? else l[m]?
theorem dw.start(l:List jb):dw l 0 l:=⟨rfl,fun m a=>by rw[qZ (by omega)]⟩
theorem dw.step{l R:List jb}{k j:Nat}(h:dw l k R)(u:j=l.length-1-k)(v:k<j){x y:jb}(q:R[k]? = some x)(s:R[j]? = some y):dw l (k+1) ((R.set k y).set j x):=by
 have o:=h.1;have g:=h.2 k (by omega);have i:=h.2 j (by omega);rw[qZ (by omega)]at g i;refine⟨by rw[List.length_set,List.length_set];exact o,fun m p=>?_⟩;rw[List.getElem?_set,List.getElem?_set,List.length_set];by_cases a:j=m
 ·rw[qV a,qV (by omega),qV (by omega),<-q,g];congr 1;omega
 ·rw[qZ a];by_cases b:k=m
  ·rw[qV b,qV (by omega),qV (by omega),<-s,i];congr 1;omega
  ·rw[qZ b,h.2 m p];by_cases f:m<k∨l.length-k<=m
   ·rw[qV f,qV (by omega)]
   ·rw[qZ f,qZ (by omega)]
theorem dw.done{l R:List jb}{k:Nat}(h:dw l k R)(b:l.length<=2*k+1):R=l.reverse:=by
 refine xJ fun m=>?_
 by_cases a:m<l.length
 ·rw[h.2 m a,List.getElem?_reverse a];by_cases e:m<k∨l.length-k<=m
  ·rw[qV e]
  ·rw[qZ e];congr 1;omega
 ·rw[xX (by rw[h.1];omega),xX (by rw[List.length_reverse];omega)]
theorem qV1{w:World}{base n c:Nat}{A:Option Addr}{l:List jb}(h:kI w base (.slice A n c) l)(hl:l.length<=100000):Calls prog 47 #[.slice A n c] w fun e w'=>e=.returned (.tuple #[])/\kI w' base (.slice A n c) l.reverse/\jP (jS (.slice A n c)) w w':=by
 have Z:n=l.length:=by
  obtain⟨A',c',e,-⟩:=vl h;exact(Value.slice.inj e).2.1
 have s:=qQ Z;have HR:=qQ h;have ah:n<=100000:=by omega
 clear Z h hl;go_enter func47,ntmps47;go_wp2;go_loopw [2,3] (fun F jv wr=>∃(k j:Nat) (R:List jb),F=.int .i64 (k:Nat)/\jv=.int .i64 ((n:Int)-1-k)/\2*k<=n+1/\dw l k R/\kI wr base (.slice A n c) R/\jP (jS (.slice A n c)) w wr) (fun F _ _=>n+2-2*(intOf F).toNat)
 case atStart=>exact⟨0,0,l,rfl,by simp,by omega,dw.start l,HR.out,jP.refl _ _⟩
 case round =>
  obtain⟨k,-,R,rfl,rfl,hk,f,b,p⟩:=hrel;by_cases u:k+1<n-k
  ·obtain⟨j,Y⟩:∃j:Nat,j=n-1-k:=⟨_,rfl⟩
   have X:(n:Int)-1-(k:Int)=(j:Int):=(by omega);have s1:(k:Int)<(j:Int):=(by omega);have ad:R.length=n:=(by rw[f.1,s.out]);obtain⟨x,v⟩:∃x,R[k]? = some x:=⟨_,qE (by omega)⟩
   obtain⟨y,B⟩:∃y,R[j]? = some y:=⟨_,qE (by omega)⟩
   obtain⟨g,rfl,ae,af,⟨G,I,J,K,N⟩,⟨f0,f1,f2,f3,f4⟩⟩:=b.cells v;obtain⟨g',o,-,-,⟨O,P,Q,U,V⟩,⟨h0,h1,h2,h3,h4⟩⟩:=b.cells B;obtain rfl:g=g':=(by injection o with o;injection o);have i:=f.step (j:=j) (by rw[<-s.out];omega) (by omega) v B;have aa:=(b.put (k:=k) (by omega) y).put (k:=j) (by rw[List.length_set];omega) x;have ab:jP (jS (.slice (some ⟨g,0,none⟩) n c)) w (mq (mq wr g (k*5) y) g (j*5) x):=(p.trans (XY wr g (k*5) y) (fun z C=>qX (by rw[qH.1 C];exact ja.2 rfl))).trans (XY _ g (j*5) x) (fun z C=>qX (by rw[qH.1 C];exact ja.2 rfl));have a:=qQ (qU i (qU (aa.below (qG _ _).drew (qK _)) ab.drew));have s2:(k:Int)<(n:Int):=(by omega);have s3:(j:Int)<(n:Int):=(by omega);have ag:k<j:=(by omega);rw[X];have q:=qQ (qU Y u);clear Y u X;obtain⟨xs,xv,⟨xt,xd,xb⟩⟩:=x;obtain⟨ys,yv,⟨yt,yd,yb⟩⟩:=y;unfold mq at a;simp only at a;simp only at G I J K N O P Q U V;clear i aa ab v B f b p o ae af ad;go_wp2;go_region
   obtain⟨w5,ac⟩:∃w5,w5=((((((((((wr.setCell ⟨g,k*5,none⟩ (.string ys)).setCell ⟨g,k*5+1,none⟩ (.int .i64 yv)).setCell ⟨g,k*5+2,none⟩ (.string yt)).setCell ⟨g,k*5+3,none⟩ (.string yd)).setCell ⟨g,k*5+4,none⟩ (.float .f64 yb)).setCell ⟨g,j*5,none⟩ (.string xs)).setCell ⟨g,j*5+1,none⟩ (.int .i64 xv)).setCell ⟨g,j*5+2,none⟩ (.string xt)).setCell ⟨g,j*5+3,none⟩ (.string xd)).setCell ⟨g,j*5+4,none⟩ (.float .f64 xb)).drew:=⟨_,rfl⟩
   rw[<-ac]at a ⊢;clear ac G I J K N O P Q U V f0 f1 f2 f3 f4 h0 h1 h2 h3 h4;go_wp2;go_roundw
   case rel=>exact⟨k+1,0,_,by go_num,by have:=q.out.1;have:=q.out.2;simp;omega,by have:=q.out.1;omega,a.out.1,a.out.2.1,a.out.2.2⟩
   case measure=>simp[intOf];omega
  ·have i:=f.done (by rw[<-s.out];omega);rw[i]at b;have a:=qQ (qU b p);have s1:¬(k:Int)<(n:Int)-1-(k:Int):=(by omega);clear f i b p u;go_wp2;go_end0;exact⟨rfl,a.out.1,a.out.2⟩
end
end Go.Proofs.YthejglbnkmimjaaGreat
