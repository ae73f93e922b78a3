import Derived.Test.YthejglbnkmimjaaGreatQp05
import Derived.Test.YthejglbnkmimjaaGreatQp29
import Derived.Test.YthejglbnkmimjaaGreatQp08
import Derived.Test.YthejglbnkmimjaaGreatQp23
import Derived.Lib.OwnBridge
set_option linter.unusedVariables false
set_option maxRecDepth 100000
set_option maxHeartbeats 9000000
namespace Go.Proofs.YthejglbnkmimjaaGreat
open Proofs.Tryz
section
open Go.RowKit
abbrev cE(w:World)(base:Nat)(v:Value)(l:List Nat):Prop:=w.ownsRow base 23 1 v l.length (l.map gP)
theorem qJI: (prog.info? 23).map (fun i=>(i.zero,i.size,i.bytes))=some (some (.int .u64 0),1,8):=by kernel_rfl
theorem cE.below{w w':World}{base B:Nat}{v:Value}{l:List Nat}(h:cE w base v l)(i:Below B w w')(f:w.1.size<=B):cE w' base v l:=by
 refine⟨h.1, ?_⟩;rcases h.2 with d|⟨g,b,c,m,j,a,r⟩
 ·exact qX d
 ·obtain⟨k,_⟩:=ql.1 a;exact qY ⟨g,b,c,m,j,(i.block g (qS k f)).trans a,r⟩
theorem cE.own{w:World}{base:Nat}{v:Value}{l:List Nat}(h:cE w base v l):∀k,v.ownBlock=some k->base<=k:=fun k a=>(h.lt k a).1
theorem qJL(w:World)(x:Nat):gI (w.alloc (.cells #[.int .u64 (x:Nat)] 23)) 1 (.slice (some ⟨w.1.size,0,none⟩) 1 1) 1 [gP x] :=
 ⟨rfl,qY ⟨_,1,rfl,fun j u a=>by
  match j,a with
  | 0,a =>
    obtain rfl:gP x=u:=(by simpa using a);have:=(jF.new w 23 #[.int .u64 (x:Nat)]).cell 0;exact this⟩⟩
theorem qJM(w:World)(base:Nat)(v:Value)(l:List Nat)(x:Nat)(ty:TypeId)(k:cE w base v l)(s:l.length<=10000)(i:base<=w.1.size):
  ∃A c w',(Builtin.append_ #[272,272] ty #[v,.slice (some ⟨w.1.size,0,none⟩) 1 1]).run prog (w.alloc (.cells #[.int .u64 (x:Nat)] 23))=.ok (.slice A (l.length+1) c) w'/\cE w' base (.slice A (l.length+1) c) (l++[x])/\Below base w w':=by
 obtain⟨q,j,n,o,p⟩:=info_parts qJI;have d:=(qU w.1.size w).alloc (qK _) (.cells #[.int .u64 (x:Nat)] 23);have b:=cE.below k d (qK _);obtain⟨t,w',f,a,g,r⟩:=cr (P:=prog) _ base 272 23 q _ 1 8 ty Tryz.underlying272 j n o p rfl (by decide) v l.length (l.map gP) b _ 1 [gP x] (qJL w x) (fun u m=>by rw[qH.1 m];rfl) (by unfold maxLen;omega) (by omega) (by simp;omega);obtain⟨A,c,rfl,-,-,-⟩:=v8 a;refine⟨A,c,w',f,by unfold cE;rw[qN,List.map_append];exact a,(d.mono i).grown g (by simp;omega) (cE.own b)⟩
theorem qJN: OneCell gP:=fun x=>rfl
theorem qJO: EqlAt prog 23 gP (fun x y=>decide (x=y)):=⟨fun x y w=>by
 have h:=(EqlAt.int prog 23 .u64).1 (x:Int) (y:Int) w;unfold gP;rw[h];by_cases e:x=y
 ·subst e;simp
 ·have:¬(x:Int)=(y:Int):=by omega
  simp[e,this],fun op a b x y w=>(EqlAt.int prog 23 .u64).2 op a b (x:Int) (y:Int) w⟩
theorem qJP: NeqAt prog 23 gP (fun x y=>decide (x=y)):=⟨fun x y w=>by
 have h:=(NeqAt.int prog 23 .u64).1 (x:Int) (y:Int) w;unfold gP;rw[h];by_cases e:x=y
 ·subst e;simp
 ·have:¬(x:Int)=(y:Int):=by omega
  simp[e,this],fun op a b x y w=>(NeqAt.int prog 23 .u64).2 op a b (x:Int) (y:Int) w⟩
theorem qJR(w:World)(base:Nat)(v:Value)(l:List Nat)(a:cE w base v l)(t:l.length<=100000)(s:base<=w.1.size):
  Calls prog 226 #[v] w fun e w'=>∃A c,e=.returned (.slice A (Lib.compactUpTo l.toArray l.toArray.size).length c)/\cE w' base (.slice A (Lib.compactUpTo l.toArray l.toArray.size).length c) (Lib.compactUpTo l.toArray l.toArray.size)/\Below base w w':=by
 by_cases i:v=.slice none 0 0
 ·subst i
  have o:l=[]:=by
   rcases a.2 with⟨-,e⟩|⟨g,b,r,e,-⟩
   ·exact xK.1 e
   ·cases e
  subst o;have j:(Lib.compactUpTo ([]:List Nat).toArray ([]:List Nat).toArray.size)=[]:=rfl;rw[j];go_enter func226,ntmps226;go_wp2;go_ret;exact⟨none,0,rfl,a,qU _ _⟩
 ·obtain⟨g,b,rfl,n,u,p,y,-,m⟩:=Lib.holds_of_ownsRow a i
  have f:(Lib.compactUpTo l.toArray l.toArray.size).length<=l.length:=by
   unfold Lib.compactUpTo;rw[qz];refine qR (List.length_filter_le _ _) ?_;rw[List.length_range,List.size_toArray];exact qK _
  have h:=AnyE.slices_Compact Tryz.comp gP qJN qJO qJP 0 (fun w=>Tryz.zeroValue23 w) g 0 b l.toArray w m (by rw[List.size_toArray];omega) (by rw[List.size_toArray];exact p);rw[List.size_toArray]at h f ⊢;refine h.mono ?_;rintro e w'⟨rfl,q,rfl⟩;have d:=Lib.ownsRow_putRow (q:=q) (k:=(Lib.compactUpTo l.toArray l.length).length) (ys:=Lib.compactUpTo l.toArray l.length++List.replicate (l.length-(Lib.compactUpTo l.toArray l.length).length) 0) a (by rw[qN,List.length_replicate];omega) f;rw[List.take_left]at d;exact⟨_,_,rfl,d,Lib.below_putRow (qU _ _) n⟩
theorem qJS(v:Value)(l:List jC)(r:Nat)(w:World)(F:kC w v l)(Y:l.length<=1000)(aa:∀x∈l,kz x)(hr:r<18446744073709551616):
  Calls prog 176 #[v,.float .f64 r] w fun e w'=>∃t,e=.returned (.string t)/\bG l r t/\Below w.1.size w w':=by
 obtain⟨A,off,ao,rfl,-,-⟩:=F.form;have O:=qQ F;have ai:=qQ aa;have HP:=qQ fun W=>Ny r W hr
 obtain⟨m,C⟩:∃m,l.length=m:=⟨_,rfl⟩
 have d:=qQ C;rw[C]at Y O ⊢;clear F aa hr C;go_enter func176,ntmps176;go_wp2;go_loopw [5,12] (fun sl i wr=>∃(k:Nat) (g:Value),k<=m/\i=.int .i64 k/\g=sl/\cE wr w.1.size g ((l.take k).map jC.h)/\Below w.1.size w wr) (fun _ i _=>m-(intOf i).toNat)
 case atStart=>exact⟨0,_,qI _,rfl,rfl,World.ownsRow_nil _ _ _ _,qU _ _⟩
 case round =>
  obtain⟨k,g,hk,rfl,rfl,f,c⟩:=hrel;have aw:=qQ c;by_cases aq:k<m
  ·obtain⟨x,G⟩:∃x,l[k]? = some x:=⟨_,qD (by rw[d.out];exact aq)⟩
   have V:kC wr (.slice A l.length ao) l:=(by rw[d.out];exact O.out.below c (qK _));obtain⟨bb,of,rfl,-,ax,d0,d1,d2⟩:=tP V G;have s1:(k:Int)<(m:Int):=(by omega);have s3:(k:Int)<=1000:=(by omega);have U:=(qU wr.1.size wr).alloc (qK _) (.cells #[.int .u64 (x.h:Nat),.int .i64 x.v,.int .i64 x.p] 117);have o:((l.take k).map jC.h).length<=10000:=(by rw[qz,qT];omega);obtain⟨I,c2,w3,j,q,X⟩:=qJM (wr.alloc (.cells #[.int .u64 (x.h:Nat),.int .i64 x.v,.int .i64 x.p] 117)) w.1.size g _ x.h 272 (cE.below f U (qK _)) o (by have:=c.size;simp;omega);have S:(l.take k).map jC.h++[x.h]=(l.take (k+1)).map jC.h:=(by rw[Vf l k x G,List.map_append];rfl);rw[S]at q;obtain⟨len,Z⟩:∃len,((l.take k).map jC.h).length+1=len:=⟨_,rfl⟩
   rw[Z]at q j;have am:=qQ q;have ad:=qQ ((c.alloc c.size (.cells #[.int .u64 (x.h:Nat),.int .i64 x.v,.int .i64 x.p] 117)).trans X);have J:vG (wr.alloc (.cells #[.int .u64 (x.h:Nat),.int .i64 x.v,.int .i64 x.p] 117)) wr.1.size x.h x.v x.p:=jF.new _ _ _;have k0:=J.cell 0;obtain⟨H,ab⟩:∃H,wr.alloc (.cells #[.int .u64 (x.h:Nat),.int .i64 x.v,.int .i64 x.p] 117)=H:=⟨_,rfl⟩
   rw[ab]at j k0;have K:=qQ j;clear j q X S U V G o Z J f c;obtain⟨xh,xv,xp⟩:=x;simp only at d0 d1 d2 ab k0 K;go_wp2_with (first|(at_builtin;refine yK rfl _ _ rfl rfl rfl K.out ?_)|fail);go_roundw
   case rel=>exact⟨k+1,_,by omega,by go_num,rfl,am.out,ad.out⟩
   case measure=>simp[intOf];omega
  ·obtain rfl:k=m:=(by omega);have s1:¬(k:Int)<(k:Int):=(by omega);rw[<-d.out,List.take_length]at f;have o:(l.map jC.h).length<=1000:=(by rw[qz,d.out];exact Y);have u:=qQ (qJR wr w.1.size g (l.map jC.h) f (by omega) c.size);have ap:=Yf l;have au:(uL l).length<=1000:=(by have:=d.out;omega);have P:=qQ (OT ai.out);have L:=qQ (show Lib.compactUpTo (l.map jC.h).toArray (l.map jC.h).toArray.size=uL l from rfl);rw[L.out]at u;clear f o ap;go_wp2_with fail;refine u.out.mono ?_;rintro e H⟨I,c2,rfl,T,Q⟩;have N:=qQ T;have s:=qQ (c.trans Q);clear T Q c u;go_wp2_with fail;refine(HP.out _).mono ?_;rintro e w2⟨p,rfl,D,rfl⟩;have av:=Yh D;have ar:=Yl (n:=(uL l).length) (k:=(p:Nat)) (by omega);have aj:=qQ fun W=>Nb ((uL l).length:Nat) (p:Nat) W
   have M:=qQ fun W (b:Int) (wb:(Lit.int .i64 b).wf=true) (z:dS gP W (.slice I (uL l).length c2) (uL l))=>Rr _ _ (p:Nat) b W z P.out (by omega) (WalkArith.wf_i64 (by omega)) wb
   obtain⟨b,B⟩:∃b:Int,(480*(dQ (uL l).length (p:Nat):Nat):Int)=b:=⟨_,rfl⟩
   have af:=qQ (show fu (bs (dN (uL l) (p:Nat) b)) (p:Nat)=tM l p by rw[<-B];rfl);have ag:=qQ (show bG l r (tM l p) from⟨p,D,rfl⟩);have ac:(Lit.int .i64 b).wf=true:=WalkArith.wf_i64 (by omega);have hw:IntKind.i64.wrap (480*(dQ (uL l).length (p:Nat):Nat):Int)=b:=(by rw[B];exact qy _ ⟨by omega,by omega⟩);have an:=qQ ac;have ah:=qQ fun W z=>M.out W b an.out z
   have ak:=qQ fun(a:Tw) W=>qZg a (p:Nat) W
   have al:=qQ (dS.xz gP N.out);generalize dN (uL l) (p:Nat) b=mk at*;generalize dQ (uL l).length (p:Nat)=pg at*;clear D av ar B ac M N P L au;generalize (uL l).length=hn at*;go_wp2_with fail;refine X5 (aj.out _) ?_;go_wp2_with fail;refine KG (ah.out _ al.out) fun w4 y=>?_;go_wp2_with fail;refine KG (ak.out _ _) fun w5 R=>?_;have ae:=qQ ((s.out.trans (y.mono s.out.size)).trans (R.mono (qR s.out.size y.size)));clear y R;go_wp2;go_ret;exact⟨_,by rw[af.out];rfl,ag.out,ae.out⟩
end
end Go.Proofs.YthejglbnkmimjaaGreat
