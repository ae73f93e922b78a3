import Derived.Test.YthejglbnkmimjaaGreatQp31
set_option linter.unusedVariables false
set_option maxRecDepth 100000
set_option maxHeartbeats 9000000
namespace Go.Proofs.YthejglbnkmimjaaGreat
open Proofs.Tryz
section
theorem sQ{n:Nat}(h:n<=999999):vq (ptT n)=true/\npK (ptT n)=116/\npN (ptT n)=n/\vq (ptB n)=true/\npK (ptB n)=98/\npN (ptB n)=n:=by
 obtain⟨a,b,f⟩:=Xv (c:=116) (by decide) h;obtain⟨g,i,j⟩:=Xv (c:=98) (by decide) h;exact⟨a,b,f,g,i,j⟩
theorem sX{n m:Nat}(h:n<=999999)(k:m<=999999):(ptT n=ptT m->n=m)/\(ptB n=ptB m->n=m):=by
 obtain⟨-,-,a,-,-,b⟩:=sQ h;obtain⟨-,-,f,-,-,g⟩:=sQ k;exact⟨fun e=>by rw[e]at a;omega,fun e=>by rw[e]at b;omega⟩
theorem Qk: vq jh=false:=by decide +kernel
theorem Cv: vq jO=false:=by decide +kernel
theorem fN{n:Nat}(h:n<=999999):ptT n≠jh/\ptT n≠jO/\ptB n≠jh/\ptB n≠jO:=by
 obtain⟨a,-,-,b,-,-⟩:=sQ h;have m:=Qk;have w:=Cv;exact⟨fun e=>by rw[e,m]at a;exact Bool.noConfusion a,fun e=>by rw[e,w]at a;exact Bool.noConfusion a,fun e=>by rw[e,m]at b;exact Bool.noConfusion b,fun e=>by rw[e,w]at b;exact Bool.noConfusion b⟩
theorem qJv(T:List TbS):(T.flatMap fun t=>[ptT t.n,ptB t.n]).length=2*T.length:=by
 induction T with
 | nil=>rfl
 | cons t T a =>
   rw[List.flatMap_cons,qN,a,qv];show 2+2*T.length=2*(T.length+1);omega
theorem ot{D:jD}{n:Tw}(h:n ∉ jl D):jN D.l n=none:=fk.2 fun f a e=>h (qP.2 ⟨f,a,e⟩)
theorem qJy{D E:jD}{S:IxS}(ok:kB D S){n:Nat}(O:S.m.next=(n:Nat)){R:LvL}{en:Int}(u:vX ⟨S.m.next+1,en,S.m.seed,R⟩){x:TbS}(j:x.n=n)(I:yj E n x.l)(J:bR x.t x.l=true){P:Int->Prop}
  (i:∀y:Int,y∈R.flatten↔y=n∨(y∈S.m.lv.flatten/\P y)) (B:∀t∈gQ S.T R,jN E.l (ptT t.n)=jN D.l (ptT t.n)) {mem:List jC} (G:kG mem) (F:∀y∈mem,kz y) (C:∀y∈mem,mayE y=true):kB E (fI S R en x mem):=by
 have hst:∀t:TbS,t∈gQ S.T R↔t∈S.T/\(t.n:Int)∈R.flatten:=fun t=>by unfold gQ;rw[qo];simp
 refine⟨u,ok.seed,fun y=>?_, ?_,fun t g=>?_,fun t g=>?_,G,F,C⟩
 ·show y∈R.flatten↔∃t∈gQ S.T R++[x],(t.n:Int)=y;rw[i];constructor
  ·rintro (rfl|⟨k,K⟩)
   ·exact⟨x,qJ _ (qH.2 rfl),by rw[j]⟩
   ·obtain⟨t,g,rfl⟩:=(ok.x5 y).1 k;exact⟨t,qW _ ((hst t).2 ⟨g,(i _).2 (qY ⟨k,K⟩)⟩),rfl⟩
  ·rintro ⟨t,g,rfl⟩;rcases qE.1 g with q|q
   ·exact(i _).1 ((hst t).1 q).2
   ·rw[qH.1 q,j];exact qX rfl
 ·show((gQ S.T R++[x]).map TbS.n).Nodup;rw[List.map_append];refine List.nodup_append.2 ⟨(List.Sublist.map _ List.filter_sublist).nodup ok.uniq,by simp,fun a v b z e=>?_⟩;obtain⟨t,g,rfl⟩:=qP.1 v;have:=(ok.xT ((hst t).1 g).1).2;have N:b=x.n:=by simpa using z
  omega
 ·rcases qE.1 g with q|q
  ·obtain⟨f,o,p,s⟩:=ok.has t ((hst t).1 q).1;exact⟨f,by rw[B t q];exact o,p,s⟩
  ·rw[qH.1 q,j];exact I
 ·rcases qE.1 g with q|q
  ·exact ok.keep t ((hst t).1 q).1
  ·rw[qH.1 q];exact J
end
section
open Go.RowKit Go.Shelf
theorem Qv(D:jD)(k:Nat)(n:Tw)(a:D.down=false):(rdW { D with count:=k } n).1=(rdW D n).1/\(rdW { D with count:=k } n).2.1=(rdW D n).2.1/\∃j,j<=1/\(rdW { D with count:=k } n).2.2={ D with count:=k+j }:=by
 cases h:jN D.l n with
 | none =>
   rw[XM (D:=D) a h,XM (D:={ D with count:=k }) a h];exact⟨rfl,rfl,0,by omega,rfl⟩
 | some f =>
   rw[sg (D:=D) a h,sg (D:={ D with count:=k }) a h];exact⟨rfl,rfl,1,by omega,rfl⟩
theorem Jc(D:jD)(k:Nat)(n:Int)(a:D.down=false):vU { D with count:=k } n=vU D n/\∃j,j<=2/\uI { D with count:=k } n={ D with count:=k+j }:=by
 obtain⟨b,f,j,p,g⟩:=Qv D k (ptT n) a;have l:¬D.down=true:=by rw[a];decide
 refine⟨?_, ?_⟩
 ·unfold vU;rw[b,f]
 ·unfold uI;rw[qZ l,f,b,g];split
  ·exact⟨j,by omega,rfl⟩
  ·split
   ·exact⟨j,by omega,rfl⟩
   ·obtain⟨-,-,o,q,i⟩:=Qv D (k+j) (ptB n) a;rw[i];exact⟨j+o,by omega,by rw[Nat.add_assoc]⟩
theorem qJu{D:jD}{n:Int}(a:D.down=false)(h:vU D n=0):yj D n (tgL (rdW D (ptT n)).1):=by
 unfold vU at h;rw[qZ (by rw[a];decide)]at h;cases b:jN D.l (ptT n) with
 | none =>
   rw[XM a b]at h;simp at h
 | some f =>
   rw[sg a b]at h ⊢;simp at h;exact⟨f,b,h,rfl⟩
theorem vZ.low{w:World}{base base' g:Nat}{F:List Nat}{l:List jC}(h:vZ w base g F l)(b:base'<=base):vZ w base' g F l:=by
 obtain⟨v,i,j,k,o,a,p,q⟩:=h;exact⟨v,i,j.down b,k,o,fun x f=>⟨qR b (a x f).1,(a x f).2⟩,p,q⟩
structure oi(At:jR)(w0:World)(gd gx r gm:Nat)(m:kJ)(lv tv:Value)(ps:List Nat)(T:List TbS)(Gk:List Nat)(D:jD)(E:List Nat)(w:World):Prop where
 ds:DS At w0 gd D ([gm]++((gx::jL tv)++(Gk++E))) w
 xW:jF w gx 111 #[.pointer none,ptr gd,m.next,m.check,.int .u64 (m.seed:Nat),lv,tv,.float .f64 r,mtp gm]
 lv:bE w lv m.lv Gk
 row:vt w w0.1.size tv ps
 xO:uu w gd ps T Gk
 mem:vZ w w0.1.size gm [gm] []
 xr:gm ∉ gx::jL tv/\gm ∉ Gk/\gm ∉ E
 gr:∀b∈gx::jL tv,b ∉ Gk/\b ∉ E
 gk:∀b∈Gk,b ∉ E
 low:w0.1.size<=gx
section
variable {At:jR}{w0 w w5 W:World}{gd gx r gm gt:Nat}{m:kJ}{lv tv:Value}{ps H:List Nat}{T:List TbS}{Gk:List Nat}{D D':jD}{E E':List Nat}{t:TbS}
theorem oi.made(api:jS At)(h:oi At w0 gd gx r gm m lv tv ps T Gk D E w):jf At w0 gd gx r ⟨m,T,[]⟩ D E (w.setCell ⟨gx,0,none⟩ (ptr gx))/\jE E w (w.setCell ⟨gx,0,none⟩ (ptr gx)):=by
 have i:jH [gx] w (w.setCell ⟨gx,0,none⟩ (ptr gx)):=(jH.refl [gx] w).setCell (p:=⟨gx,0,none⟩) (qX (qH.2 rfl)) _;have g:=h.ds.lt
 have l:∀b∈[gm]++(jL tv++(Gk++E)),b<w.1.size/\b ∉ [gx]:=fun b a=>by
  rcases qE.1 a with q|q
  ·refine⟨g b (qW _ q),fun f=>h.xr.1 ?_⟩;rw[<-qH.1 q,qH.1 f];exact qC
  ·rcases qE.1 q with q|q
   ·refine⟨g b (qJ _ (qW _ (qF _ q))),fun f=>?_⟩;exact vJ h.row h.xW (by decide) (by rw[qH.1 f]at q;exact jt.1 q)
   ·rcases qE.1 q with q|q
    ·exact⟨g b (qJ _ (qJ _ (qW _ q))),fun f=>(h.gr gx qC).1 (by rw[<-qH.1 f];exact q)⟩
    ·exact⟨g b (qJ _ (qJ _ (qJ _ q))),fun f=>(h.gr gx qC).2 (by rw[<-qH.1 f];exact q)⟩
 have k:=jE.xP i l;refine⟨⟨[gm],gx::jL tv,Gk,h.ds.zK api i (fun b a=>by rw[qH.1 a];exact⟨qJ _ (qW _ qC),h.low⟩),⟨gm,lv,tv,ps,h.xW.put 0 (ptr gx),h.lv.step (k.less (fun b a=>qJ _ (qJ _ (qW _ a)))),k.xj h.row (fun b a=>qJ _ (qW _ a)),h.xO.keep k (fun b a=>qJ _ (qJ _ (qW _ a))),h.mem.keep k (fun b a=>qW _ a),qC,fun b a=>qF _ a,h.low⟩,fun b a=>by rw[qH.1 a];exact h.xr,h.gr,h.gk,fun b a=>?_⟩,k.less (fun b a=>qJ _ (qJ _ (qJ _ a)))⟩;rcases qE.1 a with q|q
 ·obtain⟨v,o,s,u,y,j,z,B⟩:=h.mem;exact(j b q).1
 ·rcases qL.1 q with e|q
  ·rw[e];exact h.low
  ·exact(h.row.lt b (jt.1 q)).1
theorem oi.next(api:jS At)(h:oi At w0 gd gx r gm m lv tv ps T Gk D E w)(B:DS At w0 gd D' (H++([gm]++((gx::jL tv)++(Gk++E)))) w5)(o:jE ([gm]++((gx::jL tv)++(Gk++E))) w w5)(u:∀b∈H,w.1.size<=b)(V:yE w5 gt gd t.n t.l t.t H)(Q:ps.length<=10000)(ty:TypeId):
  ∃A n c g i j,tv=.slice A n c/\(Builtin.append_ #[108,108] ty #[tv,.slice (some ⟨w5.1.size,0,none⟩) 1 1]).run prog (w5.alloc (.cells #[ptr gt] 160))=.ok (.slice g (n+1) i) j /\
   j.cell? ⟨gx,6,none⟩=some tv/\j.frozen? ⟨gx,6,none⟩=false/\oi At w0 gd gx r gm m lv (.slice g (n+1) i) (ps++[gt]) (T++[t]) (H++Gk) D' E (j.setCell ⟨gx,6,none⟩ (.slice g (n+1) i))/\jE E w (j.setCell ⟨gx,6,none⟩ (.slice g (n+1) i)):=by
 have k:=h.ds.lt;have v:=B.lt;have ab:=o.size;have F:=o.xW h.xW (qJ _ (qW _ qC));have C:=o.xj h.row (fun b a=>qJ _ (qW _ (qF _ a)));obtain⟨A,c,X,-,-,-⟩:=v8 C;obtain⟨g,i,j,N,I,K,o9⟩:=C7 gt ty C rfl Q B.kept.size;have P:gx ∉ jL tv:=fun f=>vJ C F (by decide) (jt.1 f)
 have s:=F.xC K P;have U:(Value.slice g (ps.length+1) i).ownBlock≠some gx:=vJ I s (by decide);have J:jH (gx::jL tv) w5 (j.setCell ⟨gx,6,none⟩ (.slice g (ps.length+1) i)):=(K.more (fun x Y=>qX (qF _ Y))).setCell (p:=⟨gx,6,none⟩) (qX qC) _;have Z:(j.setCell ⟨gx,6,none⟩ (.slice g (ps.length+1) i)).1.size=j.1.size:=by simp[World.setCell]
 have y:∀b∈gx::jL (.slice g (ps.length+1) i),b∈gx::jL tv∨(w5.1.size<=b/\b<(j.setCell ⟨gx,6,none⟩ (.slice g (ps.length+1) i)).1.size):=fun b a=>by
  rcases qL.1 a with e|q
  ·rw[e];exact qX qC
  ·rcases o9 b q with p|p
   ·exact qX (qF _ p)
   ·rw[Z];exact qY p
 have O:∀b∈[gm]++(H++(Gk++E)),b<w5.1.size/\b ∉ gx::jL tv:=fun b a=>by
  rcases qE.1 a with q|q
  ·exact⟨v b (qJ _ (qW _ q)),fun f=>h.xr.1 (by rw[<-qH.1 q];exact f)⟩
  ·rcases qE.1 q with q|q
   ·refine⟨v b (qW _ q),fun f=>?_⟩;have:=u b q;have:=k b (qJ _ (qW _ f));omega
   ·refine⟨v b (qJ _ (qJ _ (qJ _ q))),fun f=>?_⟩;rcases qE.1 q with q|q
    ·exact(h.gr b f).1 q
    ·exact(h.gr b f).2 q
 have z:=jE.xP J O;have G:jE Gk w (j.setCell ⟨gx,6,none⟩ (.slice g (ps.length+1) i)):=(o.less (fun b a=>qJ _ (qJ _ (qW _ a)))).trans (z.less (fun b a=>qJ _ (qJ _ (qW _ a))));have aa:jE [gm] w (j.setCell ⟨gx,6,none⟩ (.slice g (ps.length+1) i)):=(o.less (fun b a=>qW _ a)).trans (z.less (fun b a=>qW _ a));have kE:jE E w (j.setCell ⟨gx,6,none⟩ (.slice g (ps.length+1) i)):=(o.less (fun b a=>qJ _ (qJ _ (qJ _ a)))).trans (z.less (fun b a=>qJ _ (qJ _ (qJ _ a))));refine⟨A,ps.length,c,g,i,j,X,N,s.cell 6,s.frozen 6,⟨B.xL api J (fun b a=>⟨qJ _ (qJ _ (qW _ a)), ?_⟩) (fun b a=>?_),s.put 6 _,(h.lv.step G).more (fun b a=>qJ _ a),vu (p:=⟨gx,6,none⟩) I U _,(h.xO.keep G (fun b a=>a)).snoc (V.keep z (fun b a=>qJ _ (qW _ a))),h.mem.keep aa (fun b a=>a),⟨fun f=>?_,fun f=>?_,h.xr.2.2⟩,fun b a=>⟨fun f=>?_,fun f=>?_⟩,fun b a f=>?_,h.low⟩,kE⟩
 ·rcases qL.1 a with e|q
  ·rw[e];exact h.low
  ·exact(h.row.lt b (jt.1 q)).1
 ·rcases qE.1 a with q|q
  ·exact qX (qJ _ (qW _ q))
  ·rcases qE.1 q with q|q
   ·rcases y b q with p|p
    ·exact qX (qJ _ (qJ _ (qW _ p)))
    ·exact qY p
   ·rcases qE.1 q with q|q
    ·rcases qE.1 q with q|q
     ·exact qX (qW _ q)
     ·exact qX (qJ _ (qJ _ (qJ _ (qW _ q))))
    ·exact qX (qJ _ (qJ _ (qJ _ (qJ _ q))))
 ·have:=k gm (qW _ qC);rcases y gm f with p|p
  ·exact h.xr.1 p
  ·omega
 ·have:=k gm (qW _ qC);rcases qE.1 f with p|p
  ·have:=u gm p;omega
  ·exact h.xr.2.1 p
 ·rcases y b a with p|p
  ·have:=k b (qJ _ (qW _ p));rcases qE.1 f with q|q
   ·have:=u b q;omega
   ·exact(h.gr b p).1 q
  ·rcases qE.1 f with q|q
   ·have:=v b (qW _ q);omega
   ·have:=k b (qJ _ (qJ _ (qW _ q)));omega
 ·rcases y b a with p|p
  ·exact(h.gr b p).2 f
  ·have:=k b (qJ _ (qJ _ (qJ _ f)));omega
 ·rcases qE.1 a with q|q
  ·have:=u b q;have:=k b (qJ _ (qJ _ (qJ _ f)));omega
  ·exact h.gk b q f
end
end
section
theorem Qy{D:jD}(h:UpD D)(b:(jl D).Nodup)(n:Tw):∃e E,jg D n=(e,E)/\cP e=true/\UpD E/\kS D E/\jM E.l<=jM D.l/\(jl E).Nodup/\(∀k,k∈jl E↔k∈jl D/\k≠n)/\∀k,k≠n->jN E.l k=jN D.l k:=by
 cases g:jN D.l n with
 | none =>
   refine⟨4,D,su h.down g,rfl,h,kS.refl D,qK _,b,fun k=>⟨fun a=>⟨a,fun e=>?_⟩,fun a=>a.1⟩,fun k _=>rfl⟩;obtain⟨f,p,q⟩:=qP.1 a;exact fk.1 g f p (q.trans e)
 | some f =>
   obtain⟨E,i,u1,c1,v,s,y,z,u⟩:=sc h g;have o:=CU D n;rw[i]at o
   have j:jl E=(jl D).filter (fun x=>!decide (x=n)):=by
    show E.l.map jI.name=_;rw[s];exact pj n D.l b
   refine⟨0,E,i,rfl,u1,o,by omega,by rw[j];exact List.Pairwise.filter _ b,fun k=>?_,u⟩;rw[j,qo];simp
structure Jd(D E:jD)(ns:List Int):Prop where
 up:UpD E
 stays:kS D E
 used:jM E.l<=jM D.l
 nodup:(jl E).Nodup
 names:∀k,k∈jl E↔k∈jl D/\∀n∈ns,k≠ptT n/\k≠ptB n
 other:∀k,(∀n∈ns,k≠ptT n/\k≠ptB n)->jN E.l k=jN D.l k
theorem Cy{D:jD}(h:UpD D)(o:(jl D).Nodup)(n:Int):∃E,uW D n=(0,E)/\Jd D E [n]:=by
 obtain⟨I,G,j,g,u1,C,K,b,s,v⟩:=Qy h o (ptT n);obtain⟨J,a,l,i,u2,F,N,f,u,y⟩:=Qy u1 b (ptB n);refine⟨a, ?_,u2,C.trans F,by omega,f,fun k=>?_,fun k p=>?_⟩
 ·unfold uW;rw[j];simp only;rw[qZ (by rw[g];decide),l];simp only;rw[qZ (by rw[i];decide)]
 ·rw[u,s];simp only[List.mem_singleton,forall_eq];exact⟨fun q=>⟨q.1.1,q.1.2,q.2⟩,fun q=>⟨⟨q.1,q.2.1⟩,q.2.2⟩⟩
 ·obtain⟨z,B⟩:=p n qC;rw[y k B,v k z]
theorem Cu: ∀(ns:List Int) {D:jD},UpD D->(jl D).Nodup->∃E,fM D ns=(0,E)/\Jd D E ns
 | [],D,h,hd=>⟨D,rfl,h,kS.refl D,qK _,hd,fun k=>by simp,fun k _=>rfl⟩
 | n::ns,D,h,hd=>by
   obtain⟨o,j,a⟩:=Cy h hd n;obtain⟨i,l,b⟩:=Cu ns a.up a.nodup;refine⟨i, ?_,b.up,a.stays.trans b.stays,qR b.used a.used,b.nodup,fun k=>?_,fun k g=>?_⟩
   ·rw[Ck,j];simp only;rw[qZ (by decide)];exact l
   ·rw[b.names,a.names];simp only[List.mem_cons,List.not_mem_nil,or_false,forall_eq_or_imp,forall_eq];exact⟨fun q=>⟨q.1.1,q.1.2,q.2⟩,fun q=>⟨⟨q.1,q.2.1⟩,q.2.2⟩⟩
   ·rw[b.other k (fun m f=>g m (qF _ f)),a.other k (fun m f=>by rw[qH.1 f];exact g n qC)]
structure qJg(D E:jD)(n:Nat)(l:List jC)(t:Tw)(m:kJ):Prop where
 up:UpD E
 xB:E.xB=D.xB
 cap:E.cap=D.cap
 count:E.count<=D.count+2
 used:jM E.l<=jM D.l+t.size+(tbB l).size+(mfB m).size
 has:yj E n l
 names:∀k∈jl E,k=jh∨k=ptT n∨k=ptB n∨k∈jl D
 other:∀k,k≠jh->k≠jO->k≠ptT n->k≠ptB n->jN E.l k=jN D.l k
theorem Cg{D:jD}{n:Int}{l:List jC}(a:D.down=false)(h:yj D n l):vU D n=0/\tgL (rdW D (ptT n)).1=l:=by
 obtain⟨f,b,g,i⟩:=h;unfold vU;rw[sg a b,qZ (by rw[a];decide)];simp[g,i]
theorem Cb{D E:jD}{n:Nat}{l:List jC}{t:Tw}(h:kA D n l t=(0,E))(a:(jl D).Nodup)(w:ry D E n l t):(jl E).Nodup/\kS D E/\∀k∈jl E,k=ptT n∨k=ptB n∨k∈jl D:=by
 have e:E=(ji (ji D (ptB n) t).2 (ptT n) (tbB l)).2:=by
  unfold kA at h;split at h
  ·cases h
  ·split at h
   ·cases h
   ·split at h
    ·cases h
    ·split at h
     ·rename_i c;exact absurd (by rw[h]) c
     ·split at h
      ·rename_i c;exact absurd (congrArg Prod.fst h) c
      ·rw[h]
 rw[e];refine⟨rf (rf a),(mW _ _ _).trans (mW _ _ _),fun k b=>?_⟩;rcases Jq b with q|q
 ·exact qX q
 ·rcases Jq q with q|q
  ·exact qY (qX q)
  ·exact qY (qY q)
theorem Cc{D:jD}{l:List jI}(h:(jl D).Nodup)(k:(l.map jI.name).Nodup):(jl (yI D { D with l:=l }).2).Nodup:=by
 unfold yI;split
 ·exact k
 ·rw[Qq];exact h
theorem Qu{D:jD}(h:(jl D).Nodup)(n:Tw):(jl (jg D n).2).Nodup:=by
 unfold jg;split
 ·exact h
 ·split
  ·exact Cc h (ru h)
  ·exact h
theorem qJb{l:List jI}(n:Tw)(h:(l.map jI.name).Nodup):((yT l n).map jI.name).Nodup:=by
 unfold yT;split
 ·exact ru h
 ·exact h
theorem qJc{l:List jI}{f:jI}(h:(l.map jI.name).Nodup)(j:jN l f.name=none):((kL l f).map jI.name).Nodup:=by
 have o:((kL l f).map jI.name).Perm (f.name::l.map jI.name):=by
  unfold kL;generalize yV l f.name=k;have e:l.map jI.name=(l.take k).map jI.name++(l.drop k).map jI.name:=by rw[<-List.map_append,qe]
  rw[e,List.map_append,List.map_append];show((l.take k).map jI.name++[f.name]++(l.drop k).map jI.name).Perm _;rw[qn];exact List.perm_middle
 refine o.nodup_iff.2 (List.nodup_cons.2 ⟨fun i=>?_,h⟩);obtain⟨g,b,a⟩:=qP.1 i;exact fk.1 j g b a
theorem qJd{D:jD}(h:(jl D).Nodup)(n m:Tw):(jl (vI D n m).2).Nodup:=by
 unfold vI;split
 ·exact h
 ·split
  ·split
   ·exact h
   ·refine Cc h ?_;split
    ·exact h
    ·cases a:D.l[j8 D.l n]? with
     | none =>
       unfold fx;rw[a];exact h
     | some f =>
       rw[nj a];exact qJc (qJb m (ru h)) (CW (ru h))
  ·exact h
theorem qJf{D:jD}(h:(jl D).Nodup)(m:kJ):(jl (uU D m).2).Nodup:=by
 unfold uU;split
 ·exact h
 ·split
  ·exact h
  ·split
   ·exact Qu h _
   ·split
    ·exact Qu h _
    ·split
     ·exact rf (Qu h _)
     ·exact qJd (rf (Qu h _)) _ _
theorem Cd{x:Tw}(h:isC x=true):vq x=true/\npK x=99:=by
 unfold isC at h;rw[Bool.and_eq_true]at h;exact⟨h.1,by simpa using h.2⟩
theorem mC{x:Tw}(h:isC x=true):x≠jh/\x≠jO/\∀n:Nat,n<=999999->x≠ptT n/\x≠ptB n:=by
 obtain⟨a,b⟩:=Cd h;have m:=Qk;have w:=Cv;refine⟨fun e=>?_,fun e=>?_,fun n i=>?_⟩
 ·rw[e,m]at a;exact Bool.noConfusion a
 ·rw[e,w]at a;exact Bool.noConfusion a
 ·obtain⟨-,f,-,-,g,-⟩:=sQ i;refine⟨fun e=>?_,fun e=>?_⟩
  ·rw[e,f]at b;exact absurd b (by decide)
  ·rw[e,g]at b;exact absurd b (by decide)
structure yN(X:List Tw)(D:jD)(S:IxS):Prop where
 up:UpD D
 nodup:(jl D).Nodup
 only:∀n∈jl D,n=jh∨n∈X∨∃t∈S.T,n=ptT t.n∨n=ptB t.n
 x7:∀x∈X,isC x=true
 xx:X.length<=200
theorem yN.many{X:List Tw}{D:jD}{S:IxS}(h:yN X D S)(ok:kB D S):D.l.length<=281:=by
 have a:=rn (b:=jh::(X++S.T.flatMap fun t=>[ptT t.n,ptB t.n])) h.nodup (fun n f=>by
  rcases h.only n f with e|e|⟨t,g,e⟩
  ·rw[e];exact qC
  ·exact qF _ (qW _ e)
  ·refine qF _ (qJ _ (xZ.2 ⟨t,g, ?_⟩));rcases e with e|e<;>rw[e]<;>simp)
 have i:(jl D).length=D.l.length:=qz _;rw[qv,qN,qJv]at a;have:=ok.xR;have:=h.xx;omega
theorem yN.none_{X:List Tw}{D:jD}{S:IxS}(h:yN X D S)(ok:kB D S):jN D.l jO=none/\∀n:Nat,n<=999999->S.m.next<=n->jN D.l (ptT n)=none/\jN D.l (ptB n)=none:=by
 refine⟨ot fun b=>?_,fun n a i=>⟨ot fun b=>?_,ot fun b=>?_⟩⟩
 ·rcases h.only _ b with e|e|⟨t,f,e⟩
  ·exact Xi e.symm
  ·exact(mC (h.x7 _ e)).2.1 rfl
  ·have:=(ok.xT f).1;have:=fN (n:=t.n) (by omega);rcases e with e|e
   ·exact this.2.1 e.symm
   ·exact this.2.2.2 e.symm
 ·rcases h.only _ b with e|e|⟨t,f,e⟩
  ·exact(fN a).1 e
  ·exact((mC (h.x7 _ e)).2.2 n a).1 rfl
  ·have g:=ok.xT f;rcases e with e|e
   ·have:=(sX a (by omega)).1 e;omega
   ·exact mi (by omega) a e.symm
 ·rcases h.only _ b with e|e|⟨t,f,e⟩
  ·exact(fN a).2.2.1 e
  ·exact((mC (h.x7 _ e)).2.2 n a).2 rfl
  ·have g:=ok.xT f;rcases e with e|e
   ·exact mi a (by omega) e
   ·have:=(sX a (by omega)).2 e;omega
theorem yN.count{X:List Tw}{D:jD}{S:IxS}(h:yN X D S)(k:Nat):yN X { D with count:=k } S:=⟨h.up.count k,h.nodup,h.only,h.x7,h.xx⟩
structure bH(D E:jD):Prop where
 up:UpD E
 nodup:(jl E).Nodup
 xB:E.xB=D.xB
 cap:E.cap=D.cap
 count:E.count<=D.count+2
 used:jM E.l<=jM D.l
 names:∀k∈jl E,k∈jl D
 files:∀k,jN E.l k=jN D.l k
theorem bH.refl{D:jD}(h:UpD D)(a:(jl D).Nodup):bH D D:=⟨h,a,rfl,rfl,by omega,qK _,fun k b=>b,fun k=>rfl⟩
theorem bH.ok{D E:jD}{S:IxS}(h:bH D E)(ok:kB D S):kB E S:=by
 refine⟨ok.may,ok.seed,ok.x5,ok.uniq,fun u i=>?_,ok.keep,ok.xH,ok.ok,ok.mayE⟩;obtain⟨f,a,b,g⟩:=ok.has u i;exact⟨f,by rw[h.files];exact a,b,g⟩
theorem bH.dk{X:List Tw}{D E:jD}{S:IxS}(h:bH D E)(k:yN X D S):yN X E S:=⟨h.up,h.nodup,fun n a=>k.only n (h.names n a),k.x7,k.xx⟩
theorem qJh{D:jD}(h:UpD D){m:kJ}(a:vX m)(b:jN D.l jO=none)(f:D.cap<jM D.l+(mfB m).size+6000):uU D m=(60,D):=by
 unfold uU;rw[qZ (by simpa using a),qZ (by simp[h.down]),su h.down b];simp only;rw[qZ (by decide),qV (by omega)]
theorem qJl{D a:jD}{n:Nat}(K:n<=999999){l:List jC}{t:Tw}(I:(jl D).Nodup)(O:jN D.l (ptT n)=none)(P:jN D.l (ptB n)=none)(F:kA D n l t=(0,a))(w1:ry D a n l t)(j:Nat)(X:j<=2):
  ∃E,uW { a with count:=a.count+j } (n:Nat)=(0,E)/\bH D E:=by
 obtain⟨C,U,Q⟩:=Cb F I w1;obtain⟨f,p,b⟩:=Cy (D:={ a with count:=a.count+j }) (w1.up.count _) C (n:Nat);obtain⟨v,G,u3,B,u,Y,V⟩:=qZr (D:={ a with count:=a.count+j }) (w1.up.count _) (n:=n) K w1.table w1.zM;obtain rfl:f=v:=congrArg Prod.snd (p.symm.trans G);have hw:=w1.used;simp only at V u;refine⟨f,p,b.up,b.nodup,b.stays.xB.trans U.xB,B.trans w1.cap,by rw[u,w1.count];omega,by omega,fun k J=>?_,fun k=>?_⟩
 ·obtain⟨y,z⟩:=(b.names k).1 J;obtain⟨g,i⟩:=z _ qC;rcases Q k y with e|e|e
  ·exact absurd e g
  ·exact absurd e i
  ·exact e
 ·have s:∀q:Tw,(q=ptT n∨q=ptB n)->jN f.l q=none:=fun q N=>ot fun o=>by
   obtain⟨g,i⟩:=((b.names q).1 o).2 _ qC;rcases N with e|e
   ·exact g e
   ·exact i e
  by_cases c1:k=ptT n
  ·rw[s k (qX c1),c1,O]
  ·by_cases c2:k=ptB n
   ·rw[s k (qY c2),c2,P]
   ·rw[b.other k (fun m o=>by rw[qH.1 o];exact⟨c1,c2⟩)];exact w1.other k c1 c2
structure Cf(D E:jD)(n:Nat)(l:List jC)(t:Tw)(m:kJ):Prop where
 laid:qJg D E n l t m
 map:jN E.l jh=some ⟨jh,mfB m,(mfB m).size⟩
 jB : jN E.l jO=none
 nodup:(jl E).Nodup
theorem Jf{X:List Tw}{D:jD}{S:IxS}(dk:yN X D S)(ok:kB D S){n:Nat}(hn:S.m.next=(n:Nat))(s:n<=999999){l:List jC}(hr:kG l)(hm:∀x∈l,mayE x=true)(hx:∀x∈l,kz x)(hl:l.length<=10000)(t:Tw)
  {R:LvL} {en:Int} (C:vX (jo S R en)) (o:Nat):
  (o=0/\∃E x,vy D n l t o (jo S R en)=(0,E)/\uZ S D n l t o R en=fI S R en x S.mem/\x.n=n/\x.l=l/\bR x.t x.l=true/\Cf D E n l t (jo S R en)) ∨
  (∃e E,vy D n l t o (jo S R en)=(e,E)/\e≠0/\(e=60∨e=o)/\(o≠0∨D.cap<jM D.l+t.size+(tbB l).size+6190)/\uZ S D n l t o R en=S/\bH D E):=by
 have G:=Qz hr hm;obtain⟨k1,k2⟩:=dk.none_ ok;obtain⟨O,P⟩:=k2 n s (by omega);have af:=dk.many ok;by_cases ac:jM D.l+t.size+(tbB l).size+6000<=D.cap
 ·obtain⟨g,q,p⟩:=CK dk.up (n:=n) s G (t:=t) (by omega) O P ac;obtain⟨I,s1,n1⟩:=Cb q dk.nodup p;have K:=p.has (by omega) hx G;obtain⟨Q,o2⟩:=Cg p.up.down K;obtain⟨j,hj,o3⟩:=(Jc g g.count (n:Nat) p.up.down).2;have U:uI g (n:Nat)={ g with count:=g.count+j }:=o3;have N:jN g.l jO=none:=by rw[p.other jO (fun e=>(fN (n:=n) s).2.1 e.symm) (fun e=>(fN (n:=n) s).2.2.2 e.symm)];exact k1
  have back:∀(i:Nat) (e:Nat),i<=2->e≠0->(e=60∨e=o)->(o≠0∨D.cap<jM D.l+t.size+(tbB l).size+6190)->v7 g n o (jo S R en)=(e, { g with count:=g.count+i }) ->
    ∃e E,vy D n l t o (jo S R en)=(e,E)/\e≠0/\(e=60∨e=o)/\(o≠0∨D.cap<jM D.l+t.size+(tbB l).size+6190)/\uZ S D n l t o R en=S/\bH D E:=by
   intro i e hi F aa ae v;obtain⟨u,z,y⟩:=qJl s dk.nodup O P q p i hi;refine⟨e,u, ?_,F,aa,ae, ?_,y⟩
   ·unfold vy;rw[q];simp only;rw[qZ (by decide),v];simp only;rw[qV F,z]
   ·unfold uZ;rw[q];simp only;rw[qZ (by decide)];unfold bF;rw[v];exact qZ F
  by_cases B:o=0
  ·subst B;by_cases ad:jM g.l+(mfB (jo S R en)).size+6000<=g.cap
   ·refine qX ⟨rfl, ?_⟩;obtain⟨u,z,u2,y,q2,l2,f2,g2,J,x2⟩:=qZo (D:={ g with count:=g.count+j }) (p.up.count _) I C N (by show g.l.length<_;rw[p.many];omega) ad
    have v:v7 g n 0 (jo S R en)=(0,u):=by
     unfold v7;rw[qZ (by decide),qZ (by rw[Q];decide),U];exact z
    have hw:=p.used
    have ab:(jl u).Nodup:=by
     have:=qJf (D:={ g with count:=g.count+j }) I (jo S R en);rw[z]at this;exact this
    refine⟨u,Qj g n, ?_, ?_,rfl,o2, ?_,⟨u2,(y.xB.trans s1.xB),(y.cap.trans p.cap), ?_, ?_, ?_,fun k hk=>?_,fun k a b c d=>?_⟩,f2,g2,ab⟩
    ·unfold vy;rw[q];simp only;rw[qZ (by decide),v];simp
    ·unfold uZ;rw[q];simp only;rw[qZ (by decide)];unfold bF;rw[v];simp
    ·show bR (ldF _ _ _) _=true;exact Yx _ _ _
    ·have:=y.count;have:=p.count;show u.count<=_;simp only at*;omega
    ·show jM u.l<=_;simp only at q2;omega
    ·obtain⟨f,V,Y,Z⟩:=K;exact⟨f,by rw[J _ (fun e=>(fN (n:=n) s).1 e) (fun e=>(fN (n:=n) s).2.1 e)];exact V,Y,Z⟩
    ·rcases x2 k hk with e|e
     ·exact qX e
     ·rcases n1 k e with e|e|e
      ·exact qY (qX e)
      ·exact qY (qY (qX e))
      ·exact qY (qY (qY e))
    ·rw[J k a b];exact p.other k c d
   ·refine qY (back j 60 hj (by decide) (qX rfl) (qY (by have:=p.used;have:=p.cap;have:=tK C;omega)) ?_);unfold v7;rw[qZ (by decide),qZ (by rw[Q];decide),U];exact qJh (D:={ g with count:=g.count+j }) (p.up.count _) C N (by show g.cap<jM g.l+_+_;omega)
  ·refine qY (back 0 o (by omega) B (qY rfl) (qX B) ?_);unfold v7;rw[qV B];rfl
 ·have q:=CV dk.up (n:=n) s G (t:=t) (by omega);refine qY ⟨60,D, ?_,by decide,qX rfl,qY (by omega), ?_,bH.refl dk.up dk.nodup⟩
  ·unfold vy;rw[q];simp
  ·unfold uZ;rw[q];simp
structure oo(X:List Tw)(D E:jD)(S S':IxS):Prop where
 ok:kB E S'
 dk:yN X E S'
 has:∀x,uX S' x↔uX S x
 xO:∀x,(∃t∈S.T,x∈t.l)->∃t∈S'.T,x∈t.l
 xB:E.xB=D.xB
 cap:E.cap=D.cap
 other:∀k,isC k=true->jN E.l k=jN D.l k
theorem bH.step{X:List Tw}{D E:jD}{S:IxS}(h:bH D E)(dk:yN X D S)(ok:kB D S):oo X D E S S:=⟨h.ok ok,h.dk dk,fun x=>Iff.rfl,fun x a=>a,h.xB,h.cap,fun k _=>h.files k⟩
theorem Ch{X:List Tw}{D N E:jD}{S:IxS}(dk:yN X D S)(ok:kB D S){n:Nat}(hn:S.m.next=(n:Nat))(p:n<=999999){l:List jC}{t:Tw}{R:LvL}{en:Int}(hM:vX (jo S R en)){x:TbS}(K:x.n=n)(xl:x.l=l)(xk:bR x.t x.l=true)
  (L:Cf D N n l t (jo S R en)) {ns:List Int} (b:Jd N E ns) (O:∀y:Int,y∈R.flatten↔y=n∨(y∈S.m.lv.flatten/\y ∉ ns)) (ae:∀y∈ns,y∈S.m.lv.flatten)
  {mem:List jC} (hr:kG mem) (af:∀y∈mem,kz y) (ac:∀y∈mem,mayE y=true) (aa:∀y,uX (fI S R en x mem) y↔uX S y) (ag:∀y,(∃u∈S.T,y∈u.l)->∃u∈(fI S R en x mem).T,y∈u.l):
  oo X D E S (fI S R en x mem)/\jN E.l jh=some ⟨jh,mfB (jo S R en),(mfB (jo S R en)).size⟩:=by
 have hst:∀u:TbS,u∈gQ S.T R↔u∈S.T/\(u.n:Int) ∉ ns:=fun u=>by
  unfold gQ;rw[qo,decide_eq_true_iff,O];constructor
  ·rintro ⟨g,o|o⟩
   ·have:=(ok.xT g).2;omega
   ·exact⟨g,o.2⟩
  ·rintro ⟨g,o⟩;exact⟨g,qY ⟨(ok.x5 _).2 ⟨u,g,rfl⟩,o⟩⟩
 have v:∀y∈ns,∃j:Nat,y=(j:Nat)/\j<n:=fun y a=>by
  obtain⟨u,g,rfl⟩:=(ok.x5 y).1 (ae y a);exact⟨u.n,rfl,by have:=(ok.xT g).2;omega⟩
 have Q:∀j:Nat,j<=999999->(j:Int) ∉ ns->∀y∈ns,(ptT j≠ptT y/\ptT j≠ptB y)/\ptB j≠ptT y/\ptB j≠ptB y:=fun j s U y a=>by
  obtain⟨i,rfl,G⟩:=v y a;exact⟨⟨fun e=>by have:=(sX s (by omega)).1 e;subst this;exact U a,fun e=>mi (by omega) s e.symm⟩,fun e=>mi s (by omega) e,fun e=>by have:=(sX s (by omega)).2 e;subst this;exact U a⟩
 have ad:((n:Nat):Int) ∉ ns:=fun I=>by
  obtain⟨i,e,G⟩:=v _ I;omega
 have ab:∀y∈ns,jh≠ptT y/\jh≠ptB y:=fun y a=>by
  obtain⟨i,rfl,G⟩:=v y a;have:=fN (n:=i) (by omega);exact⟨fun e=>this.1 e.symm,fun e=>this.2.2.1 e.symm⟩
 refine⟨⟨?_,⟨b.up,b.nodup,fun q hq=>?_,dk.x7,dk.xx⟩,aa,ag,b.stays.xB.trans L.laid.xB,b.stays.cap.trans L.laid.cap,fun k hk=>?_⟩,by rw[b.other _ ab];exact L.map⟩
 ·refine qJy ok hn hM K ?_ xk (P:=fun y=>y ∉ ns) O (fun u J=>?_) hr af ac
  ·rw[xl];obtain⟨f,B,C,V⟩:=L.laid.has;exact⟨f,by rw[b.other _ (fun y a=>(Q n p ad y a).1)];exact B,C,V⟩
  ·obtain⟨ah,ai⟩:=(hst u).1 J;have o:=ok.xT ah;have z:u.n<=999999:=(by omega);have:=fN z;rw[b.other _ (fun y a=>(Q u.n z ai y a).1)];exact L.laid.other _ this.1 this.2.1 (fun e=>by have:=(sX z p).1 e;omega) (fun e=>mi p z e.symm)
 ·show q=jh∨q∈X∨∃u∈gQ S.T R++[x],q=ptT u.n∨q=ptB u.n;obtain⟨g,o⟩:=(b.names q).1 hq;rcases L.laid.names q g with e|e|e|e
  ·exact qX e
  ·exact qY (qY ⟨x,qJ _ (qH.2 rfl),qX (by rw[K];exact e)⟩)
  ·exact qY (qY ⟨x,qJ _ (qH.2 rfl),qY (by rw[K];exact e)⟩)
  ·rcases dk.only q e with e|e|⟨u,J,e⟩
   ·exact qX e
   ·exact qY (qX e)
   ·refine qY (qY ⟨u,qW _ ((hst u).2 ⟨J,fun I=>?_⟩),e⟩);obtain⟨B,C⟩:=o _ I;rcases e with e|e
    ·exact B e
    ·exact C e
 ·obtain⟨Y,Z,F⟩:=mC hk
  rw[b.other k (fun y a=>by
   obtain⟨i,rfl,G⟩:=v y a;exact F i (by omega))]
  exact L.laid.other k Y Z (F n p).1 (F n p).2
theorem qJm{X:List Tw}{D:jD}{S:IxS}(dk:yN X D S)(ok:kB D S){n:Nat}(F:S.m.next=(n:Nat))(G:n<=999999)(K:S.mem.length<=10000)(t:Tw){en:Int}(z:0<=en)(B:en<=2147483647){i:Nat}(I:vo S.m.lv n=(i:Nat)):
  ∃e E S',dE 0 D S t n i en=(e,E)/\dF 0 D S t n i en=S'/\oo X D E S S'/\E.count<=D.count+2/\S'.m.seed=S.m.seed /\
   ((e=0/\S.mem=[]/\S'=S/\E=D) ∨
    (e=0/\S.mem≠[]/\S'.mem=[]/\S'.m=jo S (kI S.m.lv n) en/\S'.T.length=S.T.length+1/\jN E.l jh=some ⟨jh,mfB S'.m,(mfB S'.m).size⟩/\jM E.l<=jM D.l+t.size+(tbB S.mem).size+190) ∨
    (e=60/\S.mem≠[]/\S'=S/\bH D E/\(S.T.length=40∨D.cap<jM D.l+t.size+(tbB S.mem).size+6190))):=by
 by_cases b:S.mem=[]
 ·refine⟨0,D,S, ?_, ?_,(bH.refl dk.up dk.nodup).step dk ok,by omega,rfl,qX ⟨rfl,b,rfl,rfl⟩⟩
  ·unfold dE;rw[qZ (by decide),qV b]
  ·unfold dF;rw[qZ (by decide),qV b]
 ·have s:=ok.may;have O:=CH s.2.2.2.2.1 (n:=(n:Nat)) (by omega) (fun x hx=>by have:=s.2.2.2.2.2 x hx;omega)
  have ad:i=0∨(i=60/\S.T.length=40):=by
   rw[I]at O;split at O
   ·rename_i c;exact qY ⟨by omega,by rw[ok.many];exact c⟩
   ·exact qX (by omega)
  have C:dE 0 D S t n i en=vy D n S.mem t i (jo S (kI S.m.lv n) en):=by unfold dE;rw[qZ (by decide),qZ b]
  rcases ad with rfl|⟨rfl,V⟩
  ·have N:vo S.m.lv n=0:=I;obtain⟨P,a2,-⟩:=KY N;have v:=fun y=>qZw N y
   have p:vX (jo S (kI S.m.lv n) en):=⟨by show 0<=S.m.next+1;omega,by show S.m.next+1<=_;omega,z,B,P,fun y a=>by
    show y<S.m.next+1;rcases(v y).1 a with e|e
    ·omega
    ·have:=s.2.2.2.2.2 y e;omega⟩
   rcases Jf dk ok F G ok.xH ok.mayE ok.ok K t p 0 with⟨-,E,x,g,o,xn,J,xk,L⟩|⟨e,E,g,Q,U,af,o,j⟩
   ·have hst:∀u∈S.T,u∈gQ S.T (kI S.m.lv n):=fun u f=>qo.2 ⟨f,qB ((v _).2 (qY ((ok.x5 _).2 ⟨u,f,rfl⟩)))⟩
    obtain⟨Y,ab⟩:=Ch (mem:=[]) dk ok F G p xn J xk L (ns:=[]) ⟨L.laid.up,kS.refl _,qK _,L.nodup,fun k=>by simp,fun k _=>rfl⟩ (fun y=>by rw[v y];simp) (fun y a=>by cases a)
     List.Pairwise.nil (fun y a=>by cases a) (fun y a=>by cases a) (fun y=>by
      unfold uX;show(y∈[]∨∃u∈gQ S.T (kI S.m.lv n)++[x],y∈u.l)↔_;constructor
      ·rintro (q|⟨u,f,q⟩)
       ·cases q
       ·rcases qE.1 f with k|k
        ·exact qY ⟨u,(qo.1 k).1,q⟩
        ·rw[qH.1 k,J]at q;exact qX q
      ·rintro (q|⟨u,f,q⟩)
       ·exact qY ⟨x,qJ _ (qH.2 rfl),by rw[J];exact q⟩
       ·exact qY ⟨u,qW _ (hst u f),q⟩)
     (fun y=>by
      rintro ⟨u,f,q⟩;exact⟨u,qW _ (hst u f),q⟩)
    have aa:gQ S.T (kI S.m.lv n)=S.T:=List.filter_eq_self.2 fun u f=>qB ((v _).2 (qY ((ok.x5 _).2 ⟨u,f,rfl⟩)))
    refine⟨0,E,fI S (kI S.m.lv n) en x [],by rw[C,g], ?_,Y,L.laid.count,rfl,qY (qX ⟨rfl,b,rfl,rfl, ?_,ab, ?_⟩)⟩
    ·unfold dF;rw[qZ (by decide),qZ b,g,o];simp only;rw[qV trivial];rfl
    ·show(gQ S.T (kI S.m.lv n)++[x]).length=_;rw[aa];simp
    ·have:=L.laid.used;have:=tK p;omega
   ·obtain rfl:e=60:=(by omega);refine⟨60,E,S,by rw[C,g], ?_,j.step dk ok,j.count,rfl,qY (qY ⟨rfl,b,rfl,j,qY (by omega)⟩)⟩;unfold dF;rw[qZ (by decide),qZ b,g,o];simp only;rw[qZ (by decide)]
  ·
    have ae:vX (jo S S.m.lv en):=⟨by show 0<=S.m.next+1;omega,by show S.m.next+1<=_;omega,z,B,s.2.2.2.2.1,fun y a=>by
     show y<S.m.next+1;have:=s.2.2.2.2.2 y a;omega⟩
    have ac:vo S.m.lv n≠0:=by rw[I];decide
    have Z:kI S.m.lv n=[]∨vX (jo S (kI S.m.lv n) en):=by
     unfold kI;rw[qZ ac];exact qX rfl
    have p:vX (jo S (kI S.m.lv n) en):=by
     rcases Z with e|e
     ·rw[e];exact⟨by show 0<=S.m.next+1;omega,by show S.m.next+1<=_;omega,z,B,(show cw [] by decide),fun y a=>by cases a⟩
     ·exact e
    rcases Jf dk ok F G ok.xH ok.mayE ok.ok K t p 60 with⟨h,-⟩|⟨e,E,g,Q,U,-,o,j⟩
    ·exact absurd h (by decide)
    ·obtain rfl:e=60:=(by omega);refine⟨60,E,S,by rw[C,g], ?_,j.step dk ok,j.count,rfl,qY (qY ⟨rfl,b,rfl,j,qX V⟩)⟩;unfold dF;rw[qZ (by decide),qZ b,g,o];simp only;rw[qZ (by decide)]
theorem qJn{X:List Tw}{D:jD}{S:IxS}(dk:yN X D S)(ok:kB D S){n:Nat}(G:S.m.next=(n:Nat))(I:n<=999999){lev:Int}(P:(ka S (kU S.m.lv lev)).length<=10000)(t:Tw)(k:Nat){f:Nat}(V:vV S.m.lv lev=(f:Nat)){B:Nat}(aa:yA S.m.lv lev n=(B:Nat)):
  ∃e E S',dH D S t n lev f B k=(e,E)/\dt D S t n lev f B k=S'/\oo X D E S S'/\E.count<=D.count+k+2/\S'.m.seed=S.m.seed/\S'.m.check=S.m.check/\S'.mem=S.mem /\
   ((e=f/\f≠0/\S'=S/\E=D) ∨
    (e=0/\f=0/\S'.m=jo S (kq S.m.lv lev n) S.m.check/\S'.T.length<=S.T.length/\jN E.l jh=some ⟨jh,mfB S'.m,(mfB S'.m).size⟩/\jM E.l<=jM D.l+t.size+(tbB (ka S (kU S.m.lv lev))).size+190) ∨
    (e=60/\f=0/\S'=S/\bH D { E with count:=D.count }/\D.cap<jM D.l+t.size+(tbB (ka S (kU S.m.lv lev))).size+6190)):=by
 by_cases z:f=0
 ·subst z;have s:=ok.may;have J:vV S.m.lv lev=0:=V;have K:yA S.m.lv lev n=0:=by rw[CI (by omega) (fun x Z=>by have:=s.2.2.2.2.2 x Z;omega),J]
  obtain rfl:B=0:=by omega
  obtain⟨N,a2,-⟩:=KU K;have o:=fun y=>qJQ K y
  have F:vX (jo S (kq S.m.lv lev n) S.m.check):=⟨by show 0<=S.m.next+1;omega,by show S.m.next+1<=_;omega,s.2.2.1,s.2.2.2.1,N,fun y a=>by
   show y<S.m.next+1;rcases(o y).1 a with e|⟨e,-⟩
   ·omega
   ·have:=s.2.2.2.2.2 y e;omega⟩
  have hst:∀u:TbS,u∈gQ S.T (kq S.m.lv lev n)↔u∈S.T/\(u.n:Int) ∉ kU S.m.lv lev:=fun u=>by
   unfold gQ;rw[qo,decide_eq_true_iff,o];constructor
   ·rintro ⟨i,p|p⟩
    ·have:=(ok.xT i).2;omega
    ·exact⟨i,p.2⟩
   ·rintro ⟨i,p⟩;exact⟨i,qY ⟨(ok.x5 _).2 ⟨u,i,rfl⟩,p⟩⟩
  rcases Jf (D:={ D with count:=D.count+k }) (dk.count _) (ok.count _) G I (Qx ok (kU S.m.lv lev)) (fun y a=>(oc ok _ y a).2) (fun y a=>(oc ok _ y a).1) P t F 0 with⟨-,E1,x,e1,e2,xn,xl,xk,L⟩|⟨e,E,e1,e0,ee,why,e2,sm⟩
  ·obtain⟨E,O,C⟩:=Cu (kU S.m.lv lev) L.laid.up L.nodup
   obtain⟨g,U⟩:=Ch (mem:=S.mem) (dk.count (D.count+k)) (ok.count _) G I F xn xl xk L C o (fun y a=>rh y a) ok.xH ok.ok ok.mayE (fun y=>by
     unfold uX;show(y∈S.mem∨∃u∈gQ S.T (kq S.m.lv lev n)++[x],y∈u.l)↔_;constructor
     ·rintro (q|⟨u,b,q⟩)
      ·exact qX q
      ·rcases qE.1 b with k|k
       ·exact qY ⟨u,((hst u).1 k).1,q⟩
       ·rw[qH.1 k,xl]at q;obtain⟨v,Y,-,a⟩:=rm.1 q;exact qY ⟨v,Y,a⟩
     ·rintro (q|⟨u,b,q⟩)
      ·exact qX q
      ·by_cases j:(u.n:Int)∈kU S.m.lv lev
       ·exact qY ⟨x,qJ _ (qH.2 rfl),by rw[xl];exact rm.2 ⟨u,b,j,q⟩⟩
       ·exact qY ⟨u,qW _ ((hst u).2 ⟨b,j⟩),q⟩)
    (fun y=>by
     rintro ⟨u,b,q⟩;by_cases j:(u.n:Int)∈kU S.m.lv lev
     ·exact⟨x,qJ _ (qH.2 rfl),by rw[xl];exact rm.2 ⟨u,b,j,q⟩⟩
     ·exact⟨u,qW _ ((hst u).2 ⟨b,j⟩),q⟩)
   have Q:(gQ S.T (kq S.m.lv lev n)++[x]).length<=S.T.length:=by
    obtain⟨y,a⟩:=List.exists_mem_of_length_pos (pG J).2.2.2.2;obtain⟨u,b,rfl⟩:=(ok.x5 y).1 (rh y a)
    have i:(gQ S.T (kq S.m.lv lev n)).length<S.T.length:=by
     unfold gQ;refine List.length_filter_lt_length_iff_exists.2 ⟨u,b, ?_⟩;rw[decide_eq_true_iff,o];rintro (e|⟨-,e⟩)
     ·have:=(ok.xT b).2;omega
     ·exact e a
    rw[qN];simp;omega
   refine⟨0,E,fI S (kq S.m.lv lev n) S.m.check x S.mem, ?_, ?_,⟨g.ok,g.dk,g.has,g.xO,g.xB,g.cap,g.other⟩, ?_,rfl,rfl,rfl,qY (qX ⟨rfl,rfl,rfl,Q,U, ?_⟩)⟩
   ·unfold dH;rw[qZ (by decide),e1];simp only;rw[qZ (by decide)];exact O
   ·unfold dt;rw[qZ (by decide)];exact e2
   ·rw[C.stays.count];have:=L.laid.count;simp only at this;omega
   ·have:=L.laid.used;have:=tK F;have:=C.used;simp only at*;omega
  ·obtain rfl:e=60:=(by omega);refine⟨60,E,S, ?_, ?_, ?_,sm.count,rfl,rfl,rfl,qY (qY ⟨rfl,rfl,rfl, ?_, ?_⟩)⟩
   ·unfold dH;rw[qZ (by decide),e1];simp
   ·unfold dt;rw[qZ (by decide)];exact e2
   ·have:=sm.step (dk.count _) (ok.count _);exact⟨this.ok,this.dk,this.has,this.xO,this.xB,this.cap,this.other⟩
   ·exact⟨sm.up.count _,sm.nodup,sm.xB,sm.cap,by simp,sm.used,sm.names,sm.files⟩
   ·rcases why with w|w
    ·exact absurd rfl w
    ·exact w
 ·refine⟨f,D,S, ?_, ?_,(bH.refl dk.up dk.nodup).step dk ok,by omega,rfl,rfl,rfl,qX ⟨rfl,z,rfl,rfl⟩⟩
  ·unfold dH;rw[qV z]
  ·unfold dt;rw[qV z]
end
def bI(n:Nat):List Tw:=(List.range n).map nmC
theorem sZ{n:Nat}{x:Tw}:x∈bI n↔∃i,i<n/\x=nmC i:=by
 unfold bI;rw[qP];constructor
 ·rintro ⟨i,h,e⟩;exact⟨i,List.mem_range.1 h,e.symm⟩
 ·rintro ⟨i,h,e⟩;exact⟨i,List.mem_range.2 h,e.symm⟩
theorem qJp{n:Nat}(h:n<=200):∀x∈bI n,isC x=true:=fun x a=>by
 obtain⟨i,b,rfl⟩:=sZ.1 a;exact(mX (by omega)).1
theorem qJr(n:Nat):(bI n).length=n:=by unfold bI;rw[qz,List.length_range]
theorem qJs{n:Nat}(h:n<=999999):isC (ptT n)=false/\isC (ptB n)=false:=by
 have g:∀x:Tw,(x=ptT n∨x=ptB n)->isC x=false:=fun x a=>by
  cases q:isC x with
  | false=>rfl
  | true =>
    have:=(mC q).2.2 n h;rcases a with e|e
    ·exact absurd e this.1
    ·exact absurd e this.2
 exact⟨g _ (qX rfl),g _ (qY rfl)⟩
theorem Cl: isC jh=false:=by unfold isC;rw[Qk];rfl
theorem kB.data{D E:jD}{S:IxS}(ok:kB D S)(h:∀t∈S.T,(jN E.l (ptT t.n)).map jI.data=(jN D.l (ptT t.n)).map jI.data):kB E S:=by
 refine⟨ok.may,ok.seed,ok.x5,ok.uniq,fun t b=>?_,ok.keep,ok.xH,ok.ok,ok.mayE⟩;obtain⟨f,i,j,k⟩:=ok.has t b;have e:=h t b;rw[i]at e;obtain⟨g,o,a⟩:=xG.1 (e:(jN E.l (ptT t.n)).map jI.data=some f.data);exact⟨g,o,by rw[a];exact j,by rw[a];exact k⟩
theorem yN.same{X:List Tw}{D E:jD}{S:IxS}(dk:yN X D S)(h:vj D E)(hw:WfP E):yN X E S:=⟨⟨h.down.trans dk.up.down,h.fails.trans dk.up.fails,hw⟩,by unfold jl;rw[h.names];exact dk.nodup,fun n a=>dk.only n (by unfold jl at a ⊢;rw[<-h.names];exact a),dk.x7,dk.xx⟩
theorem kB.zl{D E:jD}{S:IxS}(ok:kB D S)(h:vj D E):kB E S:=ok.data fun t _=>h.data _
section
variable {D E:jD}{S S':IxS}{L M:jq}{chs chs':List (List Tw)}
theorem yN.app{p:Tw}{q:Nat}(dk:yN (bI chs.length) D S)(ok:kB D S)(a:mZ D L chs p q E M chs')(hw:WfP E)(f:(jl E).Nodup):kB E S/\yN (bI chs'.length) E S:=by
 have b:=a.xI.many;refine⟨ok.data fun t j=>a.others _ (qJs (by have:=(ok.xT j).1;omega)).1,⟨a.xI.up,a.xI.fails,hw⟩,f,fun n g=>?_,qJp b,by rw[qJr];exact b⟩;rcases a.names n g with k|k
 ·rcases dk.only n k with e|e|e
  ·exact qX e
  ·refine qY (qX ?_);obtain⟨i,l,e⟩:=sZ.1 e;have:=a.length
   have o:chs.length<=chs'.length:=by
    rw[a.chunks];unfold plC;split
    ·rename_i c
     have:0<chs.length:=by
      unfold bB at c;exact(of_decide_eq_true c).1
     rw[qN,List.length_dropLast];simp;omega
    ·simp
   exact sZ.2 ⟨i,by omega,e⟩
  ·exact qY (qY e)
 ·exact qY (qX (sZ.2 k))
theorem oo.xI(h:oo (bI chs.length) D E S S')(g:kj D chs):kj E chs:=by
 have q:=g.many;refine⟨h.dk.up.down,h.dk.up.fails,g.many,fun i ps a=>?_,g.small,fun f l b=>?_,(h.dk.none_ h.ok).1⟩
 ·obtain⟨f,j,k⟩:=g.files i ps a;have p:=(qO.1 a).1;exact⟨f,by rw[h.other _ (mX (by omega)).1];exact j,k⟩
 ·rcases h.dk.only f.name (qP.2 ⟨f,l,rfl⟩) with e|e|⟨t,o,e⟩
  ·exact absurd e (mC b).1
  ·obtain⟨i,a,e⟩:=sZ.1 e;exact⟨i,a,e⟩
  ·have:=(mC b).2.2 t.n (by have:=(h.ok.xT o).1;omega);rcases e with e|e
   ·exact absurd e this.1
   ·exact absurd e this.2
theorem uA.zN(h:uA D L chs)(e:E.xB=D.xB):uA E L chs:=⟨e.trans h.xB,h.xS,h.endp,h.sure⟩
end
section
structure fO(X:List Tw)(D:jD):Prop where
 up:UpD D
 nodup:(jl D).Nodup
 only:∀n∈jl D,n=jh∨n=jO∨n∈X∨∃k:Nat,k<=999999/\(n=ptT k∨n=ptB k)
 x7:∀x∈X,isC x=true
 xx:X.length<=200
theorem fO.count{X:List Tw}{D:jD}(h:fO X D)(k:Nat):fO X { D with count:=k }:=⟨h.up.count k,h.nodup,h.only,h.x7,h.xx⟩
structure Qg(D E:jD)(p:Tw->Prop):Prop where
 up:UpD E
 stays:kS D E
 used:jM E.l<=jM D.l
 nodup:(jl E).Nodup
 names:∀k,k∈jl E↔k∈jl D/\p k
 other:∀k,p k->jN E.l k=jN D.l k
theorem Cm: ∀(ns:List Tw) {D:jD},UpD D->(jl D).Nodup->ns.Nodup->(∀n∈ns,n∈jl D)->∃E,fg D ns=(0,E)/\Qg D E (fun k=>k ∉ ns)
 | [],D,h,hd,hn,hm=>⟨D,rfl,h,kS.refl D,qK _,hd,fun k=>by simp,fun k _=>rfl⟩
 | n::ns,D,h,hd,hn,hm=>by
   obtain⟨s,u⟩:=List.nodup_cons.1 hn;obtain⟨e,C,b,G,u1,z,B,l,i,y⟩:=Qy h hd n;obtain⟨f,v⟩:=Ms (hm n qC);obtain⟨F,o,-⟩:=sc h v;obtain⟨rfl,rfl⟩:=Prod.mk.inj (b.symm.trans o);obtain⟨j,p,L⟩:=Cm ns u1 l u (fun x g=>(i x).2 ⟨hm x (qF _ g),fun q=>s (q ▸ g)⟩);refine⟨j, ?_,L.up,z.trans L.stays,qR L.used B,L.nodup,fun k=>?_,fun k a=>?_⟩
   ·unfold fg;rw[b];simpa using p
   ·rw[L.names,i];simp only[List.mem_cons,not_or];exact⟨fun q=>⟨q.1.1,q.1.2,q.2⟩,fun q=>⟨⟨q.1,q.2.1⟩,q.2.2⟩⟩
   ·simp only[List.mem_cons,not_or]at a;rw[L.other k a.2,y k a.1]
theorem qJt{D:jD}(h:UpD D)(a:(jl D).Nodup)(m:kJ):∃E,mn D m=(0,E)/\Qg D E (fun k=>gT m.lv.flatten k=false∨k ∉ jl D):=by
 obtain⟨E,b,L⟩:=Cm (gq (jl D) m) h a (a.filter _) (fun n g=>(qo.1 g).1)
 have e:∀k,k ∉ gq (jl D) m↔(gT m.lv.flatten k=false∨k ∉ jl D):=fun k=>by
  unfold gq;rw[qo];cases gT m.lv.flatten k<;>simp
 refine⟨E, ?_,L.up,L.stays,L.used,L.nodup,fun k=>by rw[L.names,e],fun k f=>L.other k ((e k).2 f)⟩;unfold mn;rw[qZ (by simp[h.down])];exact b
theorem qJa{x:Tw}(h:isC x=true)(a:List Int):gT a x=false:=by
 obtain⟨f,b⟩:=Cd h;unfold gT;rw[b];simp[(mC h).2.1]
theorem Cn{n:Nat}(h:n<=999999)(a:List Int):gT a (ptT n) = !decide ((n:Int)∈a)/\gT a (ptB n) = !decide ((n:Int)∈a):=by
 obtain⟨b,g,i,j,k,l⟩:=sQ h;have f:=fN h;unfold gT;rw[b,g,i,j,k,l];simp[f.2.1,f.2.2.2]
theorem qJe(a:List Int):gT a jh=false:=by
 unfold gT;rw[Qk];simp[Xi]
theorem Qg.dk{X:List Tw}{D E:jD}{S:IxS}{m:kJ}(f:fO X D)(o:m.lv.flatten=S.m.lv.flatten)(L:Qg D E (fun k=>gT m.lv.flatten k=false∨k ∉ jl D))(ok:kB D S):kB E S/\yN X E S/\(∀k,isC k=true->jN E.l k=jN D.l k)/\jN E.l jh=jN D.l jh:=by
 refine⟨ok.data fun t b=>?_,⟨L.up,L.nodup,fun n u=>?_,f.x7,f.xx⟩,fun k g=>L.other k (qX (qJa g _)),L.other _ (qX (qJe _))⟩
 ·have B:=(ok.xT b).1;rw[L.other _ (qX ?_)];rw[(Cn (by omega) _).1,o,qB ((ok.x5 _).2 ⟨t,b,rfl⟩)];rfl
 ·obtain⟨i,s⟩:=(L.names n).1 u;have a:gT m.lv.flatten n=false:=s.resolve_right (fun q=>q i);rcases f.only n i with e|e|e|⟨k,g,e⟩
  ·exact qX e
  ·rw[e]at a;unfold gT at a;simp at a
  ·exact qY (qX e)
  ·have j:(k:Int)∈m.lv.flatten:=by
    obtain⟨v,y⟩:=Cn g m.lv.flatten;rcases e with e|e
    ·rw[e,v]at a;simpa using a
    ·rw[e,y]at a;simpa using a
   rw[o]at j;obtain⟨t,b,z⟩:=(ok.x5 _).1 j;have p:t.n=k:=(by omega);exact qY (qY ⟨t,b,by rw[p];exact e⟩)
theorem Cp{D E:jD}{chs:List (List Tw)}(g:kj D chs)(up:UpD E)(o:∀k∈jl E,k∈jl D)(y:∀k,isC k=true->jN E.l k=jN D.l k):kj E chs:=by
 have B:=g.many;refine⟨up.down,up.fails,g.many,fun i ps j=>?_,g.small,fun f a b=>?_,ot fun q=>?_⟩
 ·obtain⟨f,s,u⟩:=g.files i ps j;have z:=(qO.1 j).1;exact⟨f,by rw[y _ (mX (by omega)).1];exact s,u⟩
 ·obtain⟨p,v,e⟩:=qP.1 (o f.name (qP.2 ⟨f,a,rfl⟩));rw[<-e]at b ⊢;exact g.only p v b
 ·obtain⟨f,a,e⟩:=qP.1 (o _ q);exact fk.1 g.xo f a e
end
def yO(seed:Nat)(x:Nat × Tw):List jC:=(List.range (bgL x.2).length).map fun i=>⟨kX seed (bgS x.2).data.toList,bgF x.2+(i:Nat),(x.1:Nat)⟩
def uE(seed:Nat)(l:List (Nat × Tw)):List jC:=l.flatMap (yO seed)
theorem sJ{seed:Nat}{l:List (Nat × Tw)}{y:jC}:y∈uE seed l↔∃x∈l,y∈yO seed x:=xZ
theorem qJi(seed:Nat)(l:List (Nat × Tw))(x:Nat × Tw)(y:jC):y∈uE seed (l++[x])↔y∈uE seed l∨y∈yO seed x:=by
 unfold uE;rw[List.flatMap_append,qE];simp
structure cF(seed:Nat)(S:IxS)(chs:List (List Tw)):Prop where
 sd:S.m.seed=seed
 whole:∀x∈jP 0 chs,vv x.2=true
 has:∀y,uX S y↔y∈uE seed (jP 0 chs)
 zV:∀x∈jP 0 chs,(x.1:Int)<S.m.check->∀y∈yO seed x,∃t∈S.T,y∈t.l
 check:S.m.check<=(vB chs:Nat)
 fresh:∀y∈S.mem,∃x∈jP 0 chs,S.m.check<=(x.1:Int)/\y∈yO seed x
 xO:S.T.length<=((jP 0 chs).filter fun x=>decide ((x.1:Int)<S.m.check)).length
section
variable {seed:Nat}{S S':IxS}{chs chs':List (List Tw)}{D E:jD}
theorem cF.merge(h:cF seed S chs)(f:∀x,uX S' x↔uX S x)(o:∀x,(∃t∈S.T,x∈t.l)->∃t∈S'.T,x∈t.l)(k:S'.m.seed=S.m.seed)(a:S'.m.check=S.m.check)(i:S'.mem=S.mem)(j:S'.T.length<=S.T.length):cF seed S' chs :=
 ⟨k.trans h.sd,h.whole,fun y=>(f y).trans (h.has y),fun x p g y b=>o y (h.zV x p (by rw[<-a];exact g) y b),by rw[a];exact h.check,fun y b=>by rw[i]at b;rw[a];exact h.fresh y b,by rw[a];exact qR j h.xO⟩
theorem Cr{D:jD}(g:kj D chs):∀x∈jP 0 chs,x.1<vB chs:=by
 intro x q;have p:=(QU chs 0 (fun ps f=>(g.small ps f).1))
 have l:=TQ chs (fun ps f=>(g.small ps f).1);obtain⟨i,a⟩:=qd q;have b:=(qO.1 a).1
 have o:x.1+12<=lZ (jP 0 chs) (jP 0 chs).length:=by
  unfold lZ;rw[qZ (by omega)];have j:(jP 0 chs)[(jP 0 chs).length-1]? = some ((jP 0 chs)[(jP 0 chs).length-1]'(by omega)):=qD _;rw[j];show x.1+12<=lX _;by_cases e:i=(jP 0 chs).length-1
  ·subst e;rw[j]at a;obtain rfl:=qb a;unfold lX;omega
  ·have:=xY.1 p.1 i ((jP 0 chs).length-1) b (by omega) (by omega)
   have k:(jP 0 chs)[i]'b=x:=by
    rw[qD b]at a;exact qb a
   rw[k]at this;unfold lX at this ⊢;omega
 rcases l with e|⟨s,u⟩
 ·rw[e]at o;omega
 ·omega
theorem cF.flush(h:cF seed S chs)(g:kj D chs)(i:∀x,uX S' x↔uX S x)(j:S'.mem=[]){R:LvL}(f:S'.m=jo S R (vB chs:Nat))(o:S.mem≠[])(k:S'.T.length=S.T.length+1):cF seed S' chs:=by
 have e:S'.m.check=(vB chs:Nat):=by rw[f];rfl
 refine⟨by rw[f];exact h.sd,h.whole,fun y=>(i y).trans (h.has y),fun x b _ y a=>?_,by rw[e];exact Int.le_refl _,(fun y a=>by rw[j]at a;cases a), ?_⟩;rotate_left
 ·rw[e];have l:(jP 0 chs).filter (fun x=>decide ((x.1:Int)<((vB chs:Nat):Int)))=jP 0 chs:=List.filter_eq_self.2 fun x b=>qB (by have:=Cr g x b;omega)
  rw[l,k];obtain⟨y,a⟩:=List.exists_mem_of_ne_nil _ o;obtain⟨x,b,p,-⟩:=h.fresh y a;have s:((jP 0 chs).filter fun x=>decide ((x.1:Int)<S.m.check)).length<(jP 0 chs).length:=List.length_filter_lt_length_iff_exists.2 ⟨x,b,by simp;omega⟩;have:=h.xO;omega
 have:uX S' y:=(i y).2 ((h.has y).2 (sJ.2 ⟨x,b,a⟩));rcases this with q|q
 ·rw[j]at q;cases q
 ·exact q
theorem cF.append(h:cF seed S chs){q:Nat}{p:Tw}(s:vv p=true)(b:jP 0 chs'=jP 0 chs++[(q,p)])(C:vB chs<=q)(B:q<=vB chs')(v:∀y,uX S' y↔uX S y∨y∈yO seed (q,p))(j:S'.T=S.T)(f:S'.m=S.m)(u:∀y∈S'.mem,y∈S.mem∨y∈yO seed (q,p)):cF seed S' chs':=by
 have z:=h.check;refine⟨by rw[f];exact h.sd,fun x a=>?_,fun y=>?_,fun x a g y i=>?_,by rw[f];omega,fun y i=>?_, ?_⟩
 ·rw[b]at a;rcases qE.1 a with k|k
  ·exact h.whole x k
  ·rw[qH.1 k];exact s
 ·rw[v,h.has,b,qJi]
 ·rw[b]at a;rw[j];rw[f]at g;rcases qE.1 a with k|k
  ·exact h.zV x k g y i
  ·rw[qH.1 k]at g;simp only at g;omega
 ·rw[f,b];rcases u y i with k|k
  ·obtain⟨x,a,l,o⟩:=h.fresh y k;exact⟨x,qW _ a,l,o⟩
  ·exact⟨(q,p),qJ _ (qH.2 rfl),by simp only;omega,k⟩
 ·rw[j,f,b,List.filter_append,qN];have:=h.xO;omega
theorem qJo(hw:∀x∈jP 0 chs,vv x.2=true)(k:S'.m.seed=seed)(a:S'.m.check=0)(f:S'.T=[])(b:∀y,y∈S'.mem↔∃x∈jP 0 chs,y∈yO seed x):cF seed S' chs:=by
 refine⟨k,hw,fun y=>?_,fun x g j=>by rw[a]at j;omega,by rw[a];omega,fun y l=>by
  obtain⟨x,g,i⟩:=(b y).1 l;exact⟨x,g,by rw[a];omega,i⟩,by rw[f];exact qI _⟩
 rw[sJ,<-b];unfold uX;rw[f];simp
theorem qJw{x:Nat × Tw}(h:vv x.2=true)(v:x.1<=2147483647):∀y∈yO seed x,kz y/\mayE y=true:=by
 intro y b;unfold yO at b;obtain⟨i,a,rfl⟩:=qP.1 b;have a:=List.mem_range.1 a;obtain⟨-,s,u,-,-,f⟩:=dc h;obtain⟨j,k,l,o,p,q,-⟩:=gh.1 f;have g:kX seed (bgS x.2).data.toList<18446744073709551616:=XJ _ _;refine⟨⟨g,by show _<=bgF x.2+(i:Nat);omega,by show bgF x.2+(i:Nat)<=_;omega,by show _<=((x.1:Nat):Int);omega,by show((x.1:Nat):Int)<=_;omega⟩, ?_⟩;unfold mayE;exact qB ⟨by show 0<=bgF x.2+(i:Nat);omega,by show 0<=((x.1:Nat):Int);omega⟩
end
section
theorem Cs: ∀(ps:List Tw) (k:Nat) (x:Rec),x∈uk k ps->x.2∈ps
 | [],_,_,h=>by cases h
 | p::ps,k,x,h=>by
   rcases qL.1 h with e|h
   ·rw[e];exact qC
   ·exact qF _ (Cs ps _ x h)
theorem Ct: ∀(chs:List (List Tw)) (i:Nat) (x:Rec),x∈jP i chs->∃ps∈chs,x.2∈ps
 | [],_,_,h=>by cases h
 | ps::r,i,x,h=>by
   rcases qE.1 h with h|h
   ·exact⟨ps,qC,Cs _ _ _ h⟩
   ·obtain⟨q,a,b⟩:=Ct r (i+1) x h;exact⟨q,qF _ a,b⟩
theorem qKQ{D:jD}{chs:List (List Tw)}(g:kj D chs){x:Rec}(h:x∈jP 0 chs):x.2.size<=2000:=by
 obtain⟨ps,a,b⟩:=Ct chs 0 x h;exact(g.small ps a).2 _ b
structure jT where
 s:Tw
 v:Int
 e:jj
def yc(s:Tw)(f:Int)(l:List jj):List jT:=l.mapIdx fun i x=>⟨s,f+(i:Nat),x⟩
theorem Jh(s:Tw)(f:Int)(l:List jj):(yc s f l).length=l.length:=List.length_mapIdx
theorem nI(s:Tw)(f:Int)(l:List jj)(i:Nat):(yc s f l)[i]? = (l[i]?).map fun x=>⟨s,f+(i:Nat),x⟩:=List.getElem?_mapIdx
theorem Qb{s:Tw}{f:Int}{l:List jj}{x:jT}(h:x∈yc s f l):x.s=s:=by
 obtain⟨i,a⟩:=qd h;rw[nI]at a;obtain⟨y,-,rfl⟩:=xG.1 a;rfl
theorem qKX(s:Tw)(f:Int)(l:List jj)(x:jj):yc s f (l++[x])=yc s f l++[⟨s,f+(l.length:Nat),x⟩]:=by
 unfold yc;rw[List.mapIdx_append];simp
theorem Ca(s:Tw)(f:Int)(l:List jj):(yc s f l).map jT.v=(List.range l.length).map fun i=>f+((i:Nat):Int):=by
 refine xV fun i=>?_
 rw[qu,nI,qu];by_cases h:i<l.length
 ·rw[qD h,List.getElem?_range h];rfl
 ·rw[xX (by omega),xX (by rw[List.length_range];omega)];rfl
def bL(p:Tw):List jT:=yc (bgS p) (bgF p) (bgL p)
def ja(l:List Rec):List jT:=l.flatMap fun x=>bL x.2
theorem qKZ(l:List Rec)(x:Rec):ja (l++[x])=ja l++bL x.2:=by unfold ja;rw[List.flatMap_append];simp
theorem lD: ∀(l:List Rec),(∀x∈l,vv x.2=true)->(ja l).length<=8*l.length
 | [],_=>qK _
 | x::l,h=>by
   have ih:=lD l (fun y b=>h y (qF _ b));have e:ja (x::l)=bL x.2++ja l:=rfl;rw[e,qN,qv];obtain⟨-,-,-,-,-,a⟩:=dc (h x qC);obtain⟨-,-,-,f,-⟩:=gh.1 a;have:(bL x.2).length=(bgL x.2).length:=Jh _ _ _;omega
def ofT(s:Tw)(T:List jT):List jT:=T.filter fun x=>decide (x.s=s)
theorem Ce(s:Tw)(A B:List jT):ofT s (A++B)=ofT s A++ofT s B:=List.filter_append ..
theorem nL{s:Tw}{T:List jT}{x:jT}:x∈ofT s T↔x∈T/\x.s=s:=by unfold ofT;rw[qo,decide_eq_true_iff]
theorem qKJ(s:Tw)(f:Int)(l:List jj):ofT s (yc s f l)=yc s f l:=List.filter_eq_self.2 fun x a=>qB (Qb a)
theorem qKK{s t:Tw}(h:t≠s)(f:Int)(l:List jj):ofT s (yc t f l)=[]:=List.filter_eq_nil_iff.2 fun x a=>by rw[Qb a];simpa using h
def yf(T:List jT):Prop:=∀s,(ofT s T).map jT.v=(List.range (ofT s T).length).map fun i=>((i:Nat):Int)
theorem yf.nil: yf []:=fun s=>rfl
theorem yf.snoc{T:List jT}(h:yf T)(s:Tw)(l:List jj):yf (T++yc s ((ofT s T).length:Nat) l):=by
 intro t;rw[Ce];by_cases e:s=t
 ·subst e;rw[qKJ,List.map_append,h s,Ca,qN,Jh,List.range_add,List.map_append,List.map_map];congr 1
 ·rw[qKK e,List.append_nil];exact h t
theorem yf.at_{T:List jT}(h:yf T){s:Tw}{i:Nat}{x:jT}(a:(ofT s T)[i]? = some x):x.v=(i:Nat):=by
 have e:=congrArg (fun l=>l[i]?) (h s);simp only[List.getElem?_map]at e;have b:=(qO.1 a).1;rw[a,List.getElem?_range b]at e;exact qb e
theorem yf.xH{T:List jT}(h:yf T)(s:Tw):(ofT s T).Pairwise fun a b=>a.v<b.v:=by
 refine xY.2 fun i j f g k=>?_
 rw[h.at_ (qD f),h.at_ (qD g)];omega
theorem yf.zS{T:List jT}(h:yf T):T.Pairwise fun a b=>a.s=b.s->a.v<b.v:=by
 refine xY.2 fun i j g l k e=>?_
 have f:=List.pairwise_filter.1 (h.xH T[j].s);have:=xY.1 f i j g l k;exact this (qB e) (qB rfl)
theorem Jl: ∀ {a b:List jT},a.Pairwise (fun x y=>x.v<y.v)->b.Pairwise (fun x y=>x.v<y.v)->(∀y,y∈a↔y∈b)->a=b
 | [],[],_,_,_=>rfl
 | [],y::b,_,_,h=>absurd ((h y).2 qC) (by simp)
 | x::a,[],_,_,h=>absurd ((h x).1 qC) (by simp)
 | x::a,y::b,ha,hb,h=>by
   obtain⟨g,l⟩:=xU.1 ha;obtain⟨i,o⟩:=xU.1 hb
   have e:x=y:=by
    rcases qL.1 ((h x).1 qC) with k|k
    ·exact k
    ·rcases qL.1 ((h y).2 qC) with j|j
     ·exact j.symm
     ·have p:=i x k;have q:=g y j;omega
   subst e
   rw[Jl l o fun z=>⟨fun f=>by
    rcases qL.1 ((h z).1 (qF _ f)) with k|k
    ·subst k;have:=g z f;omega
    ·exact k,fun f=>by
    rcases qL.1 ((h z).2 (qF _ f)) with k|k
    ·subst k;have:=i z f;omega
    ·exact k⟩]
def kV(s:Tw)(a b:Int)(T:List jT):List jT:=(ofT s T).filter fun x=>decide (a<=x.v/\x.v<=b)
theorem mD{s:Tw}{a b:Int}{T:List jT}{x:jT}:x∈kV s a b T↔x∈ofT s T/\a<=x.v/\x.v<=b:=by unfold kV;rw[qo,decide_eq_true_iff]
theorem Ci{T:List jT}(h:yf T)(s:Tw)(a b:Int):kV s a b T=((ofT s T).drop a.toNat).take ((b+1).toNat-a.toNat):=by
 refine Jl (List.Pairwise.filter _ (h.xH s)) ((h.xH s).sublist ((List.take_sublist _ _).trans (List.drop_sublist _ _))) fun x=>?_
 rw[mD];constructor
 ·rintro ⟨g,k,l⟩;obtain⟨i,f⟩:=qd g;have:=h.at_ f;refine qM (i:=i-a.toNat) ?_;rw[List.getElem?_take,qV (by omega),List.getElem?_drop,show a.toNat+(i-a.toNat)=i by omega];exact f
 ·intro j;obtain⟨i,f⟩:=qd j;rw[List.getElem?_take]at f;split at f
  ·rw[List.getElem?_drop]at f;have:=h.at_ f;exact⟨qM f,by omega,by omega⟩
  ·cases f
def sK(l:List Rec)(q:Nat):Tw:=((l.find? fun x=>decide (x.1=q)).map (·.2)).getD ByteArray.empty
theorem Jm{l:List Rec}(f:mJ l){i j:Nat}{x y:Rec}(g:l[i]? = some x)(k:l[j]? = some y)(h:x.1<=y.1):i<=j:=by
 rcases qh j i with c|c
 ·obtain⟨a,rfl⟩:=qO.1 g;obtain⟨b,rfl⟩:=qO.1 k;have:=xY.1 f j i b a c;unfold lX at this;omega
 ·exact c
theorem Co{l:List Rec}(f:mJ l){x y:Rec}(g:x∈l)(k:y∈l)(h:x.1=y.1):x=y:=by
 obtain⟨i,b⟩:=qd g;obtain⟨j,a⟩:=qd k;have o:=Jm f b a (by omega);have p:=Jm f a b (by omega);obtain rfl:i=j:=by omega
 rw[b]at a;exact qb a
theorem qKV{l:List Rec}(i:mJ l){x:Rec}(b:x∈l):sK l x.1=x.2:=by
 unfold sK;cases a:l.find? fun y=>decide (y.1=x.1) with
 | none =>
   have:=List.find?_eq_none.1 a x b;simp at this
 | some y =>
   have f:=List.find?_some a;have g:=List.mem_of_find?_eq_some a;have:y=x:=Co i g b (of_decide_eq_true f);rw[this];rfl
def ow: jj:=⟨ByteArray.empty,ByteArray.empty,0⟩
def gZ(l:List Rec)(s:Tw)(e:jC):List jT:=if bgS (sK l e.p.toNat)=s then [⟨s,e.v,(bgL (sK l e.p.toNat)).getD (e.v-bgF (sK l e.p.toNat)).toNat ow⟩] else []
theorem sV{seed:Nat}{l:List Rec}{e:jC}(h:e∈uE seed l):∃x∈l,∃i,i<(bgL x.2).length/\e=⟨kX seed (bgS x.2).data.toList,bgF x.2+(i:Nat),(x.1:Nat)⟩:=by
 obtain⟨x,f,a⟩:=sJ.1 h;unfold yO at a;obtain⟨i,b,rfl⟩:=qP.1 a;exact⟨x,f,i,List.mem_range.1 b,rfl⟩
theorem sY{seed:Nat}{l:List Rec}(a:mJ l){x:Rec}(b:x∈l)(s:Tw){i:Nat}(hi:i<(bgL x.2).length)(h:Nat):
  gZ l s ⟨h,bgF x.2+(i:Nat),(x.1:Nat)⟩=if bgS x.2=s then [⟨s,bgF x.2+(i:Nat),(bgL x.2).getD i ow⟩] else []:=by
 unfold gZ;simp only[Int.toNat_natCast];rw[qKV a b,show(bgF x.2+(i:Int)-bgF x.2).toNat=i by omega]
theorem Qc{p:Tw}{i:Nat}(hi:i<(bgL p).length):(⟨bgS p,bgF p+(i:Nat),(bgL p).getD i ow⟩:jT)∈bL p:=by
 refine qM (i:=i) ?_;unfold bL;rw[nI,qD hi];simp[List.getD_eq_getElem?_getD,List.getElem?_eq_getElem hi]
theorem qKY{seed:Nat}{l:List Rec}(u:mJ l)(Y:yf (ja l)){R:List jC}(hR:kG R)(s:Tw)(a b:Int)
  (B:∀y,y∈R↔y∈uE seed l/\y.h=kX seed s.data.toList/\a<=y.v/\y.v<=b):R.flatMap (gZ l s)=kV s a b (ja l):=by
 refine Jl (List.pairwise_flatMap.2 ⟨fun e U=>?_, ?_⟩) (List.Pairwise.filter _ (Y.xH s)) fun x=>?_
 ·unfold gZ;split
  ·exact List.pairwise_singleton _ _
  ·exact List.Pairwise.nil
 ·have V:=Y.zS;unfold ja at V;have aa:=(List.pairwise_flatMap.1 V).2;refine List.Pairwise.imp_of_mem (R:=fun x y=>jb x y=true) (fun {p q} m1 m2 I x f y k=>?_) hR;obtain⟨J,P,-,-⟩:=(B p).1 m1;obtain⟨n2,F,-,-⟩:=(B q).1 m2;obtain⟨o,j,i1,g,rfl⟩:=sV J;obtain⟨r2,k2,i2,Z,rfl⟩:=sV n2;rw[sY (seed:=seed) u j s g]at f;rw[sY (seed:=seed) u k2 s Z]at k;split at f
  ·split at k
   ·rename_i K q2;rw[qH.1 f,qH.1 k];simp only;rw[l8]at I;simp only at I P F;rcases I with c|⟨-,c|⟨c1,c2⟩⟩
    ·omega
    ·exact c
    ·exfalso;obtain⟨N,p⟩:=qd j;obtain⟨O,q⟩:=qd k2;have ab:N<=O:=Jm u p q (by omega);have ac:N≠O:=fun e=>by rw[e,q]at p;obtain rfl:=qb p;omega
     obtain⟨h1,f1⟩:=qO.1 p;obtain⟨z,f2⟩:=qO.1 q;have:=xY.1 aa N O h1 z (by omega);rw[f1,f2]at this;have:=this _ (Qc g) _ (Qc Z) (by rw[K,q2]);simp only at this;omega
   ·cases k
  ·cases f
 ·rw[xZ,mD,nL];constructor
  ·rintro ⟨e,U,f⟩;obtain⟨J,P,F,g3⟩:=(B e).1 U;obtain⟨o,j,i1,g,rfl⟩:=sV J;rw[sY (seed:=seed) u j s g]at f;split at f
   ·rename_i K;have X:=Qc g;rw[K]at X;rw[qH.1 f];exact⟨⟨xZ.2 ⟨o,j,X⟩,rfl⟩,F,g3⟩
   ·cases f
  ·rintro ⟨⟨f,C⟩,z,Q⟩;obtain⟨o,j,f⟩:=xZ.1 f;obtain⟨i,G⟩:=qd f;unfold bL at G;rw[nI]at G;obtain⟨y,k,rfl⟩:=xG.1 G;have g:=(qO.1 k).1;simp only at C z Q;refine⟨⟨kX seed (bgS o.2).data.toList,bgF o.2+(i:Nat),(o.1:Nat)⟩,(B _).2 ⟨sJ.2 ⟨o,j, ?_⟩,by rw[<-C],z,Q⟩, ?_⟩
   ·exact qP.2 ⟨i,List.mem_range.2 g,rfl⟩
   ·rw[sY (seed:=seed) u j s g,qV C,qj,k,C];exact qH.2 rfl
def uN(s:Tw)(T:List jT):Int:=((ofT s T).length:Nat)-1
theorem qKU{T:List jT}(h:yf T){s:Tw}{a b:Int}(j:∀x∈ofT s T,x.v<=b){x:jT}(z:(kV s a b T).getLast? = some x):x.v=uN s T:=by
 have e:kV s a b T=(ofT s T).filter fun x=>decide (a<=x.v):=List.filter_congr fun y g=>by
  have:=j y g;exact decide_eq_decide.2 ⟨fun k=>k.1,fun k=>⟨k,this⟩⟩
 have p:x∈kV s a b T:=List.mem_of_getLast? z;obtain⟨i,o⟩:=qd (mD.1 p).1;have G:=h.at_ o;have F:=(qO.1 o).1;unfold uN;rcases qh (i+1) (ofT s T).length with c|c
 ·exfalso;have C:=qD (l:=ofT s T) (i:=(ofT s T).length-1) (by omega);have g:=h.at_ C;have q:(ofT s T)[(ofT s T).length-1]∈kV s a b T:=mD.2 ⟨List.getElem_mem _,by have:=(mD.1 p).2.1;omega,j _ (List.getElem_mem _)⟩;obtain⟨f,B⟩:=List.getLast?_eq_some_iff.1 z;have u:(kV s a b T).Pairwise fun x y=>x.v<y.v:=List.Pairwise.filter _ (h.xH s)
  rw[B]at u q;rcases qE.1 q with k|k
  ·have:=(List.pairwise_append.1 u).2.2 _ k x qC;omega
  ·rw[qH.1 k]at g;omega
 ·omega
end
section
open Go.RowKit
def sU(x:jT):List Value:=[.string x.s,.int .i64 x.v,.string x.e.t,.string x.e.d,.float .f64 x.e.b]
abbrev bt(x:jT):Array Value:=#[.string x.s,.int .i64 x.v,.string x.e.t,.string x.e.d,.float .f64 x.e.b]
def ug(l:List jT):List Value:=l.flatMap sU
theorem Jn: ∀l:List jT,(ug l).length=l.length*5
 | []=>rfl
 | x::l=>by
   unfold ug;rw[List.flatMap_cons,qN];have:=Jn l;unfold ug at this;rw[this,qv];show 5+_=_;omega
theorem mE: ∀(l:List jT) (i:Nat) (x:jT),l[i]? = some x->∀j,j<5->(ug l)[i*5+j]? = (sU x)[j]?
 | [],i,x,h=>by simp at h
 | y::l,0,x,h=>by
   intro j a;obtain rfl:y=x:=(by simpa using h);unfold ug;rw[List.flatMap_cons,Nat.zero_mul,qa,List.getElem?_append_left (by exact a)]
 | y::l,i+1,x,h=>by
   intro j a;have b:l[i]? = some x:=(by simpa using h);have e:(i+1)*5+j=5+(i*5+j):=(by omega);have:=mE l i x b j a;unfold ug at*;rw[List.flatMap_cons,e,List.getElem?_append_right (by show 5<=_;omega)];show(l.flatMap sU)[5+(i*5+j)-5]? = _;rw[Nat.add_sub_cancel_left];exact this
theorem Cw{l:List jT}:∀u∈ug l,u.oneCell'=true:=by
 intro u b;unfold ug at b;obtain⟨f,_,a⟩:=xZ.1 b;simp only[sU,List.mem_cons,List.not_mem_nil,or_false]at a;rcases a with rfl|rfl|rfl|rfl|rfl<;>rfl
theorem DQ(a b:List jT):ug (a++b)=ug a++ug b:=by unfold ug;rw[List.flatMap_append]
def vh(w:World)(v:Value)(l:List jT):Prop :=
 (l=[]/\∃a c,v=.slice a 0 c)∨∃b off f,v=.slice (some ⟨b,off,none⟩) l.length f/\l.length<=f/\f<=maxLen/\b<w.1.size /\
  ∀i x,l[i]? = some x->∀j u,(sU x)[j]? = some u->w.cell? ⟨b,off+(i*5+j),none⟩=some u
theorem vh.below{w w':World}{v:Value}{l:List jT}{B:Nat}(h:vh w v l)(a:Below B w w')(k:w.1.size<=B):vh w' v l:=by
 rcases h with h|⟨b,off,g,z,q,s,f,o⟩
 ·exact qX h
 ·exact qY ⟨b,off,g,z,q,s,qS f a.size,fun i x C j u y=>(a.cell (p:=⟨b,off+(i*5+j),none⟩) (qS f k)).trans (o i x C j u y)⟩
theorem vh.form{w:World}{v:Value}{l:List jT}(h:vh w v l):∃A off j,v=.slice A l.length j/\l.length<=maxLen /\
  ∀i x,l[i]? = some x->∃b,A=some ⟨b,off,none⟩/\b<w.1.size/\w.cell? ⟨b,off+i*5,none⟩=some (.string x.s)/\w.cell? ⟨b,off+i*5+1,none⟩=some (.int .i64 x.v)/\w.cell? ⟨b,off+i*5+2,none⟩=some (.string x.e.t) /\
   w.cell? ⟨b,off+i*5+3,none⟩=some (.string x.e.d)/\w.cell? ⟨b,off+i*5+4,none⟩=some (.float .f64 x.e.b):=by
 rcases h with⟨rfl,a,c,rfl⟩|⟨b,off,j,rfl,o,p,k,f⟩
 ·exact⟨a,0,c,rfl,qI _,fun i x h=>by simp at h⟩
 ·exact⟨some ⟨b,off,none⟩,off,j,rfl,by omega,fun i x g=>⟨b,rfl,k,f i x g 0 _ rfl,f i x g 1 _ rfl,f i x g 2 _ rfl,f i x g 3 _ rfl,f i x g 4 _ rfl⟩⟩
abbrev kT(w:World)(base:Nat)(v:Value)(l:List jT):Prop:=w.ownsRow base 66 5 v l.length (ug l)
theorem kT.xE{w:World}{base:Nat}{v:Value}{l:List jT}(h:kT w base v l):vh w v l:=by
 have b:=h;rcases h.2 with⟨a,p⟩|⟨g,o,C,a,F,q,B,z,I,J⟩
 ·exact qX ⟨xK.1 p,none,0,a⟩
 ·by_cases y:l=[]
  ·subst y;exact qX ⟨rfl,_,_,a⟩
  ·refine qY ⟨g,0,o,a,B,z,(ql.1 q).1,fun i x k j u f=>?_⟩;have G:i<l.length:=(qO.1 k).1;have s:j<5:=(by have:=(qO.1 f).1;exact this);rw[a]at b;rw[qa];exact(b.cellAt (i*5+j) (by omega)).trans ((mE l i x k j s).trans f)
theorem kT.below{w w':World}{base B:Nat}{v:Value}{l:List jT}(h:kT w base v l)(b:Below B w w')(a:w.1.size<=B):kT w' base v l:=JF h b a
theorem kT.nil(w:World)(base:Nat):kT w base (.slice none 0 0) []:=World.ownsRow_nil _ _ _ _
theorem kT.own{w:World}{base:Nat}{v:Value}{l:List jT}(h:kT w base v l):∀b∈jL v,base<=b/\b<w.1.size:=fun b a=>h.lt b (jt.1 a)
theorem jE.zB{E:List Nat}{w w':World}{base:Nat}{v:Value}{l:List jT}(h:jE E w w')(a:kT w base v l)(o:∀b∈jL v,b∈E):kT w' base v l:=by
 refine⟨a.1, ?_⟩;rcases a.2 with k|⟨g,i,j,f,p,q,r⟩
 ·exact qX k
 ·exact qY ⟨g,i,j,f,p,(h.block g (o g (jt.2 (by rw[f];rfl)))).trans q,r⟩
theorem DX: (prog.info? 66).map (fun i=>(i.zero,i.size,i.bytes))=some (some (.agg #[.string ByteArray.empty,.int .i64 0,.string ByteArray.empty,.string ByteArray.empty,.float .f64 0]),5,64):=by kernel_rfl
theorem vh.src{w:World}{v:Value}{l:List jT}(h:vh w v l):gI w 5 v l.length (ug l):=by
 refine⟨Jn l, ?_⟩;rcases h with⟨rfl,a,c,rfl⟩|⟨b,off,k,rfl,s,y,z,p⟩
 ·cases a with
  | none=>exact qX ⟨c,rfl,rfl⟩
  | some a=>exact qY ⟨a,c,rfl,fun j u f=>by cases f⟩
 ·refine qY ⟨⟨b,off,none⟩,k,rfl,fun j u f=>?_⟩;have B:j<l.length*5:=by have:=(qO.1 f).1;rw[Jn]at this;exact this
  have q:j/5<l.length:=by omega
  have i:l[j/5]? = some l[j/5]:=qD q;have e:j/5*5+j%5=j:=by omega
  have g:=mE l (j/5) _ i (j%5) (by omega);rw[e,f]at g;have:=p (j/5) _ i (j%5) u g.symm;rw[e]at this;have o:(⟨b,off,none⟩:Addr).add j=⟨b,off+j,none⟩:=by unfold Addr.add;split<;>simp_all
  rw[o];exact this
theorem sG(w:World)(x:jT):vh (w.alloc (.cells (bt x) 66)) (.slice (some ⟨w.1.size,0,none⟩) 1 1) [x]:=by
 have B:=jF.new w 66 (bt x);refine qY ⟨w.1.size,0,1,rfl,qK _,by unfold maxLen;omega,by simp,fun i y b j u a=>?_⟩
 match i,b with
 | 0,b =>
   obtain rfl:x=y:=by simpa using b
   match j,a with
   | 0,a=>rw[<-a];exact B.cell 0
   | 1,a=>rw[<-a];exact B.cell 1
   | 2,a=>rw[<-a];exact B.cell 2
   | 3,a=>rw[<-a];exact B.cell 3
   | 4,a=>rw[<-a];exact B.cell 4
theorem DZ{w:World}{base:Nat}{a b:Value}{l m:List jT}(p:kT w base a l)(q:vh w b m)(z:l.length+m.length<=1000000)(k:base<=w.1.size)(ty:TypeId):
  ∃A c w',(Builtin.append_ #[36,36] ty #[a,b]).run prog w=.ok (.slice A (l.length+m.length) c) w'/\kT w' base (.slice A (l.length+m.length) c) (l++m)/\w.grownBy w' a.ownBlock/\((Value.slice A (l.length+m.length) c).ownBlock=a.ownBlock∨(Value.slice A (l.length+m.length) c).ownBlock=some w.1.size):=by
 obtain⟨y,o,s,u,v⟩:=info_parts DX;obtain⟨B,w',g,f,i,j⟩:=cr (P:=prog) w base 36 66 y _ 5 64 ty Tryz.underlying36 o s u v rfl (by decide) a l.length (ug l) p b m.length (ug m) q.src Cw (by unfold maxLen;omega) (by omega) k;obtain⟨A,c,rfl,-,-,-⟩:=v8 f;refine⟨A,c,w',g, ?_,i,j⟩;unfold kT;rw[DQ,qN];exact f
end
section
open Go.RowKit Go.Shelf
theorem qKG{w:World}{base i n c:Nat}{A:Option Addr}{l:List Int}{x:Int}(h:jd w base (.slice A n c) l)(a:l[i]? = some x):∃b,A=some ⟨b,0,none⟩/\w.cell? ⟨b,i,none⟩=some (.int .i64 x):=by
 have y:=(qO.1 a).1;obtain⟨j,k,e,p,q,g,s⟩:=v8 h;obtain⟨rfl,rfl,o⟩:=Value.slice.inj e;obtain⟨b,rfl,u,v⟩:=g (by omega);have f:w.ownsRow base 3 1 (.slice (some ⟨b,0,none⟩) l.length c) l.length _:=h;refine⟨b,rfl,(f.cellAt i (by omega)).trans ?_⟩;show(l.map _)[i]? = _;rw[qu,a];rfl
def qKW(At:jR)(w0:World)(gd r:Nat)(m:kJ)(D:jD)(E:List Nat)(w:World)(e:Ending)(w':World):Prop :=
 (∃gx T j,e=.returned (.tuple #[ptr gx,.int .i64 0])/\T.map (fun t=>(t.n:Int))=m.lv.flatten/\(∀t∈T,yj D t.n t.l/\bR t.t t.l=true)/\j<=2*m.lv.flatten.length/\jf At w0 gd gx r ⟨m,T,[]⟩ { D with count:=D.count+j } E w'/\jE E w w') ∨
 (∃n j,n∈m.lv.flatten/\vU D n≠0/\j<=2*m.lv.flatten.length/\e=.returned (.tuple #[.pointer none,err (vU D n)])/\DS At w0 gd { D with count:=D.count+j } E w'/\jE E w w')
section
variable {At:jR}(api:jS At)(nap:jw){w0 w:World}{gd r:Nat}{D:jD}{E:List Nat}{n c:Int}{d:Nat}{A:Option Addr}{cp:Nat}{R:LvL}
include api
def Qd(At:jR)(w0:World)(gd gx r gm:Nat)(m:kJ)(lv:Value)(a:Value)(D:jD)(E:List Nat)(w:World)(k:Nat)(tv:Value)(wr:World):Prop :=
 ∃ps T Gk j,oi At w0 gd gx r gm m lv tv ps T Gk { D with count:=D.count+j } (jL a++E) wr/\T.map (fun t=>(t.n:Int))=m.lv.flatten.take k/\(∀t∈T,yj D t.n t.l/\bR t.t t.l=true)/\j<=2*k/\jE E w wr/\jd wr w.1.size a m.lv.flatten
theorem qKA{w1 w2 g j w5:World}{m:kJ}{v:Value}{G u:Nat}{A2:Option Addr}{i:Value}(h:DS At w0 gd D E w)(a:Below w.1.size w (w.alloc (vr n c d v)))(I:Below (w.alloc (vr n c d v)).1.size (w.alloc (vr n c d v)) w1)(J:Below w1.1.size w1 w2)
  (X:vw w2 w1.1.size (.slice A2 G u) m.lv) (y:Below w2.1.size w2 g) (F:vZ g w2.1.size w2.1.size [w2.1.size] []) (Q:w2.1.size<g.1.size)
  (Z:jF j g.1.size 111 #[.pointer none,ptr gd,m.next,m.check,.int .u64 (m.seed:Nat),.slice A2 G u,.slice none 0 0,.float .f64 r,mtp w2.1.size]) (z:Below g.1.size g j) (hz:j.1.size=g.1.size+1) (K:jd w5 j.1.size i m.lv.flatten) (l:Below j.1.size j w5):
  Qd At w0 gd g.1.size r w2.1.size m (.slice A2 G u) i D E w 0 (.slice none 0 0) w5:=by
 obtain⟨k,o,Y⟩:=X.keep;have s0:=a.size;have s1:=I.size;have s2:=J.size;have s3:=y.size;have s5:=l.size;have N:=bj a (bj I (bj J (bj y (bj z l))));have s:∀b∈jL i,j.1.size<=b/\b<w5.1.size:=fun b a=>K.lt b (jt.1 a)
 have p:=h.lt;have aa:=h.kept.size;have C:jL (.slice none 0 0)=[]:=rfl;have k2:=jE.xA (E:=k) (bj y (bj z l)) (fun b a=>(o b a).2);have k3:=jE.xA (E:=[w2.1.size]) (bj z l) (fun b a=>by rw[qH.1 a];exact Q)
 have P:DS At w0 gd D ([w2.1.size]++((g.1.size::jL (.slice none 0 0))++(k++(jL i++E)))) w5:=by
  refine((h.more api N (B:=[w2.1.size]++([g.1.size]++(k++jL i))) (fun b a=>?_)).less (fun b a=>?_))
  ·rcases qE.1 a with q|q
   ·rw[qH.1 q];omega
   ·rcases qE.1 q with q|q
    ·rw[qH.1 q];omega
    ·rcases qE.1 q with q|q
     ·have:=o b q;omega
     ·have:=s b q;omega
  ·rw[C]at a;simp only[List.mem_append,List.mem_cons,List.not_mem_nil,or_false]at a ⊢;rcases a with q|q|q|q|q<;>simp[q]
 have O:∀b∈k,b ∉ jL i++E:=fun b a f=>by
  have:=o b a;rcases qE.1 f with q|q
  ·have:=s b q;omega
  ·have:=p b q;omega
 have V:g.1.size ∉ jL i++E:=fun f=>by
  rcases qE.1 f with q|q
  ·have:=s _ q;omega
  ·have:=p _ q;omega
 have U:w2.1.size ∉ jL i++E:=fun f=>by
  rcases qE.1 f with q|q
  ·have:=s _ q;omega
  ·have:=p _ q;omega
 refine⟨[],[],k,0,⟨P,Z.below l,(Y.step k2),vt.nil _ _,(uu.nil _ _).more (fun b a=>by cases a),(F.keep (E:=[w2.1.size]) k3 (fun b a=>a)).low (by omega),⟨?_, ?_,U⟩, ?_,O,by omega⟩,by simp,(fun t F=>by cases F),qK _,jE.xA N p,K.down (by omega)⟩
 ·rw[C];intro f;have:=qH.1 f;omega
 ·intro f;have:=o _ f;omega
 ·rw[C];intro b a;rw[qH.1 a];exact⟨fun f=>by have:=o _ f;omega,V⟩
include nap in
theorem qKB(h:DS At w0 gd D E w)(G:WfP D)(z:D.down=false)(hc:D.count<=999990000)(hv:kh w (.slice A R.length cp) R)(B:vX ⟨n,c,d,R⟩)(aN:∀x∈R.flatten,vU D x=0->(tgL (rdW D (ptT x)).1).length<=10000):
  Calls prog 133 #[ptr gd,kc n c d (.slice A R.length cp),.float .f64 r] w (qKW At w0 gd r ⟨n,c,d,R⟩ D E w):=by
 have aI:R.flatten.length<=40:=B.2.2.2.2.1.2.1;have a2:R.length<=5:=B.2.2.2.2.1.1;have ar:∀x∈R.flatten,0<=x/\x<1000000:=fun x f=>⟨B.2.2.2.2.1.2.2.1 x f,by have:=B.2.2.2.2.2 x f;have:=B.2.1;show x<1000000;simp only at*;omega⟩
 have a:=(qU w.1.size w).alloc (qK _) (vr n c d (.slice A R.length cp));have aH:jF (w.alloc (vr n c d (.slice A R.length cp))) w.1.size 47 #[n,c,.int .u64 (d:Nat),.slice A R.length cp]:=jF.new _ _ _;have ad:=qQ aH;have HB:=qQ a;have HS:=qQ ((h.below api a).size api G ⟨#[]⟩ (by decide));have ai:=hv.below a (qK _);have Y:=qQ (JT n c d A R.length cp R _ ai (by omega) (by omega));have P:=qQ (fun W (hW:Below (w.alloc (vr n c d (.slice A R.length cp))).1.size (w.alloc (vr n c d (.slice A R.length cp))) W)=>CP n c d A cp R W (ai.below hW (qK _)) (by omega) (by omega));have I:=qQ (fun W (hW:Below (w.alloc (vr n c d (.slice A R.length cp))).1.size (w.alloc (vr n c d (.slice A R.length cp))) W)=>mY _ R W (ai.below hW (qK _)) (by omega) (by omega));have e1:fV ⟨n,c,d,R⟩=true:=qB B;rw[e1]at Y
 have hz:(((jk D ⟨#[]⟩).2:Int)==1)=false/\(((jk D ⟨#[]⟩).2:Int)==61)=false:=by
  rcases so D ⟨#[]⟩ with⟨q,-⟩|⟨-,e|e⟩
  ·rw[z]at q;cases q
  ·rw[e];exact⟨by decide,by decide⟩
  ·rw[e];exact⟨by decide,by decide⟩
 obtain⟨ba,bb⟩:=hz;have a6:=qQ G
 have aY:=qQ (fun(W:World) (E':List Nat) (j:Nat) (x:Int) (hj:j<=80) (f:x∈R.flatten) (hW:DS At w0 gd { D with count:=D.count+j } E' W)=>(show Calls prog 179 #[ptr gd,.int .i64 x] W (re At w0 gd x { D with count:=D.count+j } E' W) from by
  have:=ar x f;have hs:=Qv D (D.count+j) (ptT x) z;refine CT api nap hW ⟨G.synced,G.used,G.cap,G.many⟩ (by show D.count+j<=_;omega) x (WalkArith.wf_i64 (by omega)) (fun ho=>?_);rw[hs.1];exact aN x f ((Jc D _ x z).1.symm.trans ho)))
 have aV:=qQ ar;have aA:=qQ (fun k x=>Jc D k x z);have aZ:=qQ (fun k x=>Qv D k (ptT x) z);have ay:=qQ (fun x (f:vU D x=0)=>qJu z f);have HD:=qQ h;obtain⟨l,aq⟩:∃l,l=R.length:=⟨_,rfl⟩
 unfold ch at P;unfold kc at Y P ⊢;rw[<-aq]at Y HS HB ad P I ⊢;have a5:=qQ aq;obtain⟨ns,ah⟩:∃ns,ns=R.flatten:=⟨_,rfl⟩
 have o:=qQ ah;unfold bQ at I;obtain⟨N,hN⟩:∃N,N=ns.length:=⟨_,rfl⟩
 have a8:N<=40:=by rw[hN,ah];exact aI
 have U:=qQ hN;rw[<-ah]at I;rw[<-hN]at I;clear h a aH hv ai aq a2 aI ar G B aN e1 z ah hN;generalize (jk D ⟨#[]⟩).2=z2 at*;generalize (jk D ⟨#[]⟩).1=z1 at*;go_enter func133,ntmps133;go_wp2_with fail;refine X5 HS.out ?_;go_wp2_with fail;refine KG Y.out fun w1 ao=>?_;have O:=qQ ao;have B1:=qQ (ad.out.below ao);obtain⟨c0,c1,c2,c3⟩:=lB B1.out;clear ao;go_wp2_with fail;refine(P.out w1 O.out).mono ?_;rintro e F⟨u,y,rfl,aM,aF⟩;have az:=qQ aM;have aa:=qQ aF;clear aM aF;go_wp2_with fail;refine(PL F).mono ?_;rintro e s⟨rfl,aQ,aG,aJ⟩;have aB:=qQ aQ;have ab:=qQ aG;have ax:=qQ aJ;clear aQ aG aJ;have aw:=qQ (bj O.out (bj aa.out ab.out));have ap:=(qU s.1.size s).alloc (qK _) (.cells #[.pointer none,ptr gd,n,c,.int .u64 (d:Nat),.slice u l y,.slice none 0 0,.float .f64 r,mtp F.1.size] 111);have am:=qQ (jF.new s 111 #[.pointer none,ptr gd,n,c,.int .u64 (d:Nat),.slice u l y,.slice none 0 0,.float .f64 r,mtp F.1.size]);have ac:=qQ ap;have ak:=qQ (I.out _ (bj aw.out ac.out));have aP:(s.alloc (.cells #[.pointer none,ptr gd,n,c,.int .u64 (d:Nat),.slice u l y,.slice none 0 0,.float .f64 r,mtp F.1.size] 111)).1.size=s.1.size+1:=by simp
 have al:=qQ aP;have a1:=(((ad.out.below (bj O.out aa.out)).below ab.out).below ap).cell 3;obtain⟨w4,au⟩:∃w4,w4=s.alloc (.cells #[.pointer none,ptr gd,n,c,.int .u64 (d:Nat),.slice u l y,.slice none 0 0,.float .f64 r,mtp F.1.size] 111):=⟨_,rfl⟩
 rw[<-au]at am ac ak al;clear aP ap c0 c1 c2 c3 I P Y HS;have aC:=qQ au;clear au;go_wp2_with fail;rw[<-aC.out];refine ak.out.mono ?_;rintro e w5⟨A7,c7,rfl,r7,b7⟩;have ae:Hid (Qd At w0 gd s.1.size r F.1.size ⟨n,c,d,R⟩ (.slice u l y) (.slice A7 N c7) D E w 0 (.slice none 0 0) w5):=qQ (qKA api HD.out (by rw[o.out,<-U.out]at*;exact HB.out) O.out aa.out az.out ab.out aB.out ax.out am.out ac.out al.out (by rw[<-o.out];exact r7) b7);clear a1 ad HB O B1 aa az ab aB ax am ac al aw ak aC r7 b7 HD;generalize s.1.size=gx at*;generalize F.1.size=gm at*;go_wp2;go_loopg [43] N (fun g i wr=>∃(k:Nat) (tv:Value),k+g=N/\i=.int .i64 k/\Qd At w0 gd gx r gm ⟨n,c,d,R⟩ (.slice u l y) (.slice A7 N c7) D E w k tv wr)
 case atStart=>exact⟨0,_,by omega,rfl,ae.out⟩
 case round =>
  obtain⟨k,tv,a_,rfl,hL⟩:=hrel;have HL:=qQ hL;clear hL ae;cases gk with
  | zero =>
    obtain rfl:k=N:=(by omega);have s1:¬(k:Int)<(k:Int):=(by omega);obtain⟨ps,T,Gk,j,p,hT,hH,hj,hK,hR⟩:=HL.out;have v:=qQ (p.made api);have f0:=p.xW.frozen 0;have q0:=p.xW.cell 0;have X:=qQ (show T.map (fun t=>(t.n:Int))=R.flatten from by rw[hT];show List.take k R.flatten=_;rw[<-o.out,U.out,List.take_length]);have HH:=qQ hH;have Q:=qQ hK;have HJ:Hid (j<=2*R.flatten.length):=qQ (by rw[<-o.out,<-U.out];exact hj);clear p hT hH hj hK hR HL;go_wp2;go_ret2;exact qX ⟨gx,T,j,rfl,X.out,HH.out,HJ.out,v.out.1.less (fun b a=>qJ _ a),Q.out.trans (v.out.2.less (fun b a=>qJ _ a))⟩
  | succ gi =>
    have a3:k<N:=(by omega);have s1:(k:Int)<(N:Int):=(by omega);obtain⟨ps,T,Gk,j,p,hT,hH,hj,hK,hR⟩:=HL.out;have a4:k<ns.length:=(by rw[<-U.out];exact a3);obtain⟨x,f⟩:∃x,ns[k]? = some x:=⟨_,qD a4⟩
    have av:x∈R.flatten:=(by rw[<-o.out];exact qM f);obtain⟨bp,rfl,qc⟩:=qKG hR (i:=k) (x:=x) (by show R.flatten[k]? = _;rw[<-o.out];exact f);have V:=aY.out wr _ j x (by omega) av p.ds;unfold re at V;rw[(aA.out (D.count+j) x).1,(aZ.out (D.count+j) x).1]at V;obtain⟨j2,a9,e2⟩:=(aA.out (D.count+j) x).2;rw[e2]at V;have af:=qQ V;have HX:=qQ av;have a0:=qQ f;have v:=qQ p;have X:=qQ hT;have HH:=qQ hH;have Q:=qQ hK;have HR:=qQ hR;clear p hT hH hK hR V f av e2 HL;by_cases C:vU D x=0
    ·have J:=af.out.mono (fun e w' h=>(h.resolve_right (fun q=>q.1 C)).2);have aL:=Yx (rdW { D with count:=D.count+j } (ptT x)).2.2 x (tgL (rdW D (ptT x)).1);have aK:=ay.out x C;generalize ldF (rdW { D with count:=D.count+j } (ptT x)).2.2 x (tgL (rdW D (ptT x)).1)=ft at*;generalize tgL (rdW D (ptT x)).1=fl at*;unfold rp at J;have ag:=qQ J;have aU:=qQ aL;have aS:=qQ aK;clear J aL aK C af ay;go_wp2_with fail;refine ag.out.mono ?_;rintro e w5⟨gt,H,rfl,hp,Z,K,n5⟩;have c6:=(K.xW v.out.xW (qJ _ (qW _ qC))).cell 6;have aj:=(aV.out x HX.out).1
     have aO:ps.length<=10000:=by
      have h1:=v.out.xO.1;have h2:=congrArg List.length X.out;rw[qz,qT]at h2;omega
     obtain⟨A6,n6,a7,A9,c9,w9,rfl,e9,q9,f9,aE,an⟩:=v.out.next api (t:=⟨x.toNat,fl,ft⟩) Z K n5 (by show yE w5 gt gd ((x.toNat:Nat):Int) fl ft H;rw[Int.toNat_of_nonneg aj];exact hp) aO 108;have HE:=qQ e9
     have aD:Qd At w0 gd gx r gm ⟨n,c,d,R⟩ (.slice u l y) (.slice (some ⟨bp,0,none⟩) N c7) D E w (k+1) (.slice A9 (n6+1) c9) (w9.setCell ⟨gx,6,none⟩ (.slice A9 (n6+1) c9)):=by
      refine⟨_,_,_,j+j2,by rw[<-Nat.add_assoc];exact aE, ?_,fun t ht=>?_,by omega,Q.out.trans (an.less (fun b a=>qJ _ a)),an.zA HR.out (fun b a=>qW _ a)⟩
      ·rw[List.map_append,X.out,qw];show _=List.take k R.flatten++(R.flatten[k]?).toList;rw[<-o.out,a0.out];show _++[((x.toNat:Nat):Int)]=_;rw[Int.toNat_of_nonneg aj];rfl
      ·rcases qE.1 ht with q|q
       ·exact HH.out t q
       ·rw[qH.1 q];refine⟨?_,aU.out⟩;show yj D ((x.toNat:Nat):Int) fl;rw[Int.toNat_of_nonneg aj];exact aS.out
     have ae:=qQ aD;clear aE an e9 aD hp Z K n5 v X HH Q HR aj aO;go_wp2_with (first|(at_builtin;refine yK rfl _ _ rfl rfl rfl HE.out ?_)|fail);go_roundg gi
     case measure=>omega
     case rel=>exact⟨k+1,_,by omega,by go_num,ae.out⟩
    ·have t2:((vU D x:Int) != 0)=true:=(by simpa using C);have J:=af.out.mono (fun e w' h=>(h.resolve_left (fun q=>C q.1)).2);have aW:=qQ C;have ag:=qQ J;obtain⟨oe,ho⟩:∃oe,oe=vU D x:=⟨_,rfl⟩
     rw[<-ho]at ag t2;have aX:=qQ ho;clear J C af ho;go_wp2_with fail;refine ag.out.mono ?_;rintro e w5⟨rfl,Z,K⟩;have aR:=qQ Z;have aT:=qQ K;clear Z K;go_wp2;go_ret2;rw[aX.out];exact qY ⟨x,j+j2,HX.out,aW.out,by rw[<-o.out,<-U.out];omega,rfl,by rw[<-Nat.add_assoc];exact aR.out.less (fun b a=>qJ _ (qJ _ (qJ _ (qJ _ a)))),Q.out.trans (aT.out.less (fun b a=>qJ _ (qJ _ (qJ _ (qJ _ a)))))⟩
end
end
section
structure qKC(D:jD)(S:IxS):Prop where
 map:(jN D.l jh).map jI.data=some (mfB S.m)
 has:∀t∈S.T,yj D t.n t.l
end
section
open Go.RowKit Go.Shelf
attribute [local go_sem] cq
theorem DJ: ∀(l:List jT) (k:Nat) (x:jT),k<l.length->ug (l.set k x)=(((((ug l).set (k*5) (.string x.s)).set (k*5+1) (.int .i64 x.v)).set (k*5+2) (.string x.e.t)).set (k*5+3) (.string x.e.d)).set (k*5+4) (.float .f64 x.e.b)
 | [],k,x,h=>absurd h (Nat.not_lt_zero _)
 | y::l,0,x,_=>rfl
 | y::l,k+1,x,h=>by
   have ih:=DJ l k x (by simpa using h);have e:(k+1)*5=k*5+5:=(by omega);unfold ug at*;rw[List.set_cons_succ,List.flatMap_cons,List.flatMap_cons,ih,e];rfl
def sW(w:World)(g o:Nat)(x:jT):World:=((((w.setCell ⟨g,o,none⟩ (.string x.s)).setCell ⟨g,o+1,none⟩ (.int .i64 x.v)).setCell ⟨g,o+2,none⟩ (.string x.e.t)).setCell ⟨g,o+3,none⟩ (.string x.e.d)).setCell ⟨g,o+4,none⟩ (.float .f64 x.e.b)
theorem DK(w:World)(g o:Nat)(x:jT):jH [g] w (sW w g o x):=(((((jH.refl [g] w).setCell (p:=⟨g,o,none⟩) (qX qC) _).setCell (p:=⟨g,o+1,none⟩) (qX qC) _).setCell (p:=⟨g,o+2,none⟩) (qX qC) _).setCell (p:=⟨g,o+3,none⟩) (qX qC) _).setCell (p:=⟨g,o+4,none⟩) (qX qC) _
theorem kT.put{w:World}{base g n a k:Nat}{l:List jT}(h:kT w base (.slice (some ⟨g,0,none⟩) n a) l)(q:k<l.length)(x:jT):kT (sW w g (k*5) x) base (.slice (some ⟨g,0,none⟩) n a) (l.set k x):=by
 have u:n=l.length:=by
  obtain⟨A,c,e,-⟩:=v8 h;exact(Value.slice.inj e).2.1
 subst u;have f:=(h.stored (k*5) (.string x.s)).1;have i:=(f.stored (k*5+1) (.int .i64 x.v)).1;have j:=(i.stored (k*5+2) (.string x.e.t)).1;have o:=(j.stored (k*5+3) (.string x.e.d)).1;have p:=(o.stored (k*5+4) (.float .f64 x.e.b)).1;unfold kT;rw[DJ l k x q,List.length_set];exact p
theorem kT.cells{w:World}{base n c k:Nat}{A:Option Addr}{l:List jT}(h:kT w base (.slice A n c) l){x:jT}(a:l[k]? = some x):∃g,A=some ⟨g,0,none⟩/\base<=g/\g<w.1.size/\(w.cell? ⟨g,k*5,none⟩=some (.string x.s)/\w.cell? ⟨g,k*5+1,none⟩=some (.int .i64 x.v)/\w.cell? ⟨g,k*5+2,none⟩=some (.string x.e.t)/\w.cell? ⟨g,k*5+3,none⟩=some (.string x.e.d)/\w.cell? ⟨g,k*5+4,none⟩=some (.float .f64 x.e.b)) /\
  (w.frozen? ⟨g,k*5,none⟩=false/\w.frozen? ⟨g,k*5+1,none⟩=false/\w.frozen? ⟨g,k*5+2,none⟩=false/\w.frozen? ⟨g,k*5+3,none⟩=false/\w.frozen? ⟨g,k*5+4,none⟩=false):=by
 have z:=(qO.1 a).1
 have j:n=l.length:=by
  obtain⟨o,p,e,-⟩:=v8 h;exact(Value.slice.inj e).2.1
 subst j
 have i:∃g,A=some ⟨g,0,none⟩:=by
  rcases h.2 with⟨e,y⟩|⟨g,q,u,e,-⟩
  ·omega
  ·exact⟨g,(Value.slice.inj e).1⟩
 obtain⟨g,rfl⟩:=i;have f:=h.lt g rfl;refine⟨g,rfl,f.1,f.2,⟨?_, ?_, ?_, ?_, ?_⟩,h.frozenAt _,h.frozenAt _,h.frozenAt _,h.frozenAt _,h.frozenAt _⟩
 ·exact(h.cellAt (k*5) (by omega)).trans (mE l k _ a 0 (by omega))
 ·exact(h.cellAt (k*5+1) (by omega)).trans (mE l k _ a 1 (by omega))
 ·exact(h.cellAt (k*5+2) (by omega)).trans (mE l k _ a 2 (by omega))
 ·exact(h.cellAt (k*5+3) (by omega)).trans (mE l k _ a 3 (by omega))
 ·exact(h.cellAt (k*5+4) (by omega)).trans (mE l k _ a 4 (by omega))
def lE(l:List jT)(k:Nat)(R:List jT):Prop:=R.length=l.length/\∀m,m<l.length->R[m]? = if m<k∨l.length-k<=m then l[l.length-1-m]? else l[m]?
theorem lE.start(l:List jT):lE l 0 l:=⟨rfl,fun m a=>by rw[qZ (by omega)]⟩
theorem lE.step{l R:List jT}{k j:Nat}(h:lE l k R)(u:j=l.length-1-k)(v:k<j){x y:jT}(q:R[k]? = some x)(s:R[j]? = some y):lE l (k+1) ((R.set k y).set j x):=by
 have o:=h.1;have g:=h.2 k (by omega);have i:=h.2 j (by omega);rw[qZ (by omega)]at g i;refine⟨by rw[List.length_set,List.length_set];exact o,fun m p=>?_⟩;rw[List.getElem?_set,List.getElem?_set,List.length_set];by_cases a:j=m
 ·rw[qV a,qV (by omega),qV (by omega),<-q,g];congr 1;omega
 ·rw[qZ a];by_cases b:k=m
  ·rw[qV b,qV (by omega),qV (by omega),<-s,i];congr 1;omega
  ·rw[qZ b,h.2 m p];by_cases f:m<k∨l.length-k<=m
   ·rw[qV f,qV (by omega)]
   ·rw[qZ f,qZ (by omega)]
theorem lE.done{l R:List jT}{k:Nat}(h:lE l k R)(b:l.length<=2*k+1):R=l.reverse:=by
 refine xV fun m=>?_
 by_cases a:m<l.length
 ·rw[h.2 m a,List.getElem?_reverse a];by_cases e:m<k∨l.length-k<=m
  ·rw[qV e]
  ·rw[qZ e];congr 1;omega
 ·rw[xX (by rw[h.1];omega),xX (by rw[List.length_reverse];omega)]
theorem qKD{w:World}{base n c:Nat}{A:Option Addr}{l:List jT}(h:kT w base (.slice A n c) l)(hl:l.length<=100000):Calls prog 47 #[.slice A n c] w fun e w'=>e=.returned (.tuple #[])/\kT w' base (.slice A n c) l.reverse/\jH (jL (.slice A n c)) w w':=by
 have Z:n=l.length:=by
  obtain⟨A',c',e,-⟩:=v8 h;exact(Value.slice.inj e).2.1
 have s:=qQ Z;have HR:=qQ h;have ah:n<=100000:=by omega
 clear Z h hl;go_enter func47,ntmps47;go_wp2;go_loopw [2,3] (fun F jv wr=>∃(k j:Nat) (R:List jT),F=.int .i64 (k:Nat)/\jv=.int .i64 ((n:Int)-1-k)/\2*k<=n+1/\lE l k R/\kT wr base (.slice A n c) R/\jH (jL (.slice A n c)) w wr) (fun F _ _=>n+2-2*(intOf F).toNat)
 case atStart=>exact⟨0,0,l,rfl,by simp,by omega,lE.start l,HR.out,jH.refl _ _⟩
 case round =>
  obtain⟨k,-,R,rfl,rfl,hk,f,b,p⟩:=hrel;by_cases u:k+1<n-k
  ·obtain⟨j,Y⟩:∃j:Nat,j=n-1-k:=⟨_,rfl⟩
   have X:(n:Int)-1-(k:Int)=(j:Int):=(by omega);have s1:(k:Int)<(j:Int):=(by omega);have ad:R.length=n:=(by rw[f.1,s.out]);obtain⟨x,v⟩:∃x,R[k]? = some x:=⟨_,qD (by omega)⟩
   obtain⟨y,B⟩:∃y,R[j]? = some y:=⟨_,qD (by omega)⟩
   obtain⟨g,rfl,ae,af,⟨G,I,J,K,N⟩,⟨f0,f1,f2,f3,f4⟩⟩:=b.cells v;obtain⟨g',o,-,-,⟨O,P,Q,U,V⟩,⟨h0,h1,h2,h3,h4⟩⟩:=b.cells B;obtain rfl:g=g':=(by injection o with o;injection o);have i:=f.step (j:=j) (by rw[<-s.out];omega) (by omega) v B;have aa:=(b.put (k:=k) (by omega) y).put (k:=j) (by rw[List.length_set];omega) x;have ab:jH (jL (.slice (some ⟨g,0,none⟩) n c)) w (sW (sW wr g (k*5) y) g (j*5) x):=(p.trans (DK wr g (k*5) y) (fun z C=>qX (by rw[qH.1 C];exact jt.2 rfl))).trans (DK _ g (j*5) x) (fun z C=>qX (by rw[qH.1 C];exact jt.2 rfl));have a:=qQ (qG i (qG (aa.below (qU _ _).drew (qK _)) ab.drew));have s2:(k:Int)<(n:Int):=(by omega);have s3:(j:Int)<(n:Int):=(by omega);have ag:k<j:=(by omega);rw[X];have q:=qQ (qG Y u);clear Y u X;obtain⟨xs,xv,⟨xt,xd,xb⟩⟩:=x;obtain⟨ys,yv,⟨yt,yd,yb⟩⟩:=y;unfold sW at a;simp only at a;simp only at G I J K N O P Q U V;clear i aa ab v B f b p o ae af ad;go_wp2;go_region
   obtain⟨w5,ac⟩:∃w5,w5=((((((((((wr.setCell ⟨g,k*5,none⟩ (.string ys)).setCell ⟨g,k*5+1,none⟩ (.int .i64 yv)).setCell ⟨g,k*5+2,none⟩ (.string yt)).setCell ⟨g,k*5+3,none⟩ (.string yd)).setCell ⟨g,k*5+4,none⟩ (.float .f64 yb)).setCell ⟨g,j*5,none⟩ (.string xs)).setCell ⟨g,j*5+1,none⟩ (.int .i64 xv)).setCell ⟨g,j*5+2,none⟩ (.string xt)).setCell ⟨g,j*5+3,none⟩ (.string xd)).setCell ⟨g,j*5+4,none⟩ (.float .f64 xb)).drew:=⟨_,rfl⟩
   rw[<-ac]at a ⊢;clear ac G I J K N O P Q U V f0 f1 f2 f3 f4 h0 h1 h2 h3 h4;go_wp2;go_roundw
   case rel=>exact⟨k+1,0,_,by go_num,by have:=q.out.1;have:=q.out.2;simp;omega,by have:=q.out.1;omega,a.out.1,a.out.2.1,a.out.2.2⟩
   case measure=>simp[intOf];omega
  ·have i:=f.done (by rw[<-s.out];omega);rw[i]at b;have a:=qQ (qG b p);have s1:¬(k:Int)<(n:Int)-1-(k:Int):=(by omega);clear f i b p u;go_wp2;go_end0;exact⟨rfl,a.out.1,a.out.2⟩
end
end Go.Proofs.YthejglbnkmimjaaGreat
