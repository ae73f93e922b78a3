import Derived.Test.YthejglbnkmimjaaGreatPp29
import Derived.Test.YthejglbnkmimjaaGreatPp09
import Derived.Test.YthejglbnkmimjaaGreatPp23
import Derived.Lib.OwnBridge
set_option linter.unusedVariables false
set_option maxRecDepth 100000
set_option maxHeartbeats 9000000
namespace Go.Proofs.YthejglbnkmimjaaGreat
open Proofs.Tryz
section
open Go.RowKit
abbrev cC(w:World)(base:Nat)(v:Value)(l:List Nat):Prop:=w.ownsRow base 23 1 v l.length (l.map gL)
theorem qK1: (prog.info? 23).map (fun i=>(i.zero,i.size,i.bytes))=some (some (.int .u64 0),1,8):=by kernel_rfl
theorem cC.below{w w':World}{base B:Nat}{v:Value}{l:List Nat}(h:cC w base v l)(i:Below B w w')(f:w.1.size<=B):cC w' base v l:=by
 refine⟨h.1, ?_⟩;rcases h.2 with d|⟨g,b,c,m,j,a,r⟩
 ·exact qX d
 ·obtain⟨k,_⟩:=qn.1 a;exact qY ⟨g,b,c,m,j,(i.block g (qS k f)).trans a,r⟩
theorem cC.own{w:World}{base:Nat}{v:Value}{l:List Nat}(h:cC w base v l):∀k,v.ownBlock=some k->base<=k:=fun k a=>(h.lt k a).1
theorem qK2(w:World)(x:Nat):fX (w.alloc (.cells #[.int .u64 (x:Nat)] 23)) 1 (.slice (some ⟨w.1.size,0,none⟩) 1 1) 1 [gL x] :=
 ⟨rfl,qY ⟨_,1,rfl,fun j u a=>by
  match j,a with
  | 0,a =>
    obtain rfl:gL x=u:=(by simpa using a);have:=(jN.new w 23 #[.int .u64 (x:Nat)]).cell 0;exact this⟩⟩
theorem qK3(w:World)(base:Nat)(v:Value)(l:List Nat)(x:Nat)(f:TypeId)(m:cC w base v l)(t:l.length<=10000)(j:base<=w.1.size):
  ∃A c w',(Builtin.append_ #[272,272] f #[v,.slice (some ⟨w.1.size,0,none⟩) 1 1]).run prog (w.alloc (.cells #[.int .u64 (x:Nat)] 23))=.ok (.slice A (l.length+1) c) w'/\cC w' base (.slice A (l.length+1) c) (l++[x])/\Below base w w':=by
 obtain⟨r,k,o,p,q⟩:=info_parts qK1;have d:=(qG w.1.size w).alloc (qK _) (.cells #[.int .u64 (x:Nat)] 23);have b:=cC.below m d (qK _);obtain⟨y,w',g,a,i,s⟩:=fg (P:=prog) _ base 272 23 r _ 1 8 f Tryz.underlying272 k o p q rfl (by decide) v l.length (l.map gL) b _ 1 [gL x] (qK2 w x) (fun u n=>by rw[qH.1 n];rfl) (by unfold maxLen;omega) (by omega) (by simp;omega);obtain⟨A,c,rfl,-,-,-⟩:=vl a;refine⟨A,c,w',g,by unfold cC;rw[qL,List.map_append];exact a,(d.mono j).grown i (by simp;omega) (cC.own b)⟩
theorem qK4: OneCell gL:=fun x=>rfl
theorem qK5: EqlAt prog 23 gL (fun x y=>decide (x=y)):=⟨fun x y w=>by
 have h:=(EqlAt.int prog 23 .u64).1 (x:Int) (y:Int) w;unfold gL;rw[h];by_cases e:x=y
 ·subst e;simp
 ·have:¬(x:Int)=(y:Int):=by omega
  simp[e,this],fun c a b x y w=>(EqlAt.int prog 23 .u64).2 c a b (x:Int) (y:Int) w⟩
theorem qK6: NeqAt prog 23 gL (fun x y=>decide (x=y)):=⟨fun x y w=>by
 have h:=(NeqAt.int prog 23 .u64).1 (x:Int) (y:Int) w;unfold gL;rw[h];by_cases e:x=y
 ·subst e;simp
 ·have:¬(x:Int)=(y:Int):=by omega
  simp[e,this],fun c a b x y w=>(NeqAt.int prog 23 .u64).2 c a b (x:Int) (y:Int) w⟩
theorem qK7(w:World)(base:Nat)(v:Value)(l:List Nat)(a:cC w base v l)(t:l.length<=100000)(s:base<=w.1.size):
  Calls prog 226 #[v] w fun e w'=>∃A c,e=.returned (.slice A (Lib.compactUpTo l.toArray l.toArray.size).length c)/\cC w' base (.slice A (Lib.compactUpTo l.toArray l.toArray.size).length c) (Lib.compactUpTo l.toArray l.toArray.size)/\Below base w w':=by
 by_cases i:v=.slice none 0 0
 ·subst i
  have o:l=[]:=by
   rcases a.2 with⟨-,e⟩|⟨g,b,r,e,-⟩
   ·exact xK.1 e
   ·cases e
  subst o;have j:(Lib.compactUpTo ([]:List Nat).toArray ([]:List Nat).toArray.size)=[]:=rfl;rw[j];go_enter func226,ntmps226;go_wp2;go_ret;exact⟨none,0,rfl,a,qG _ _⟩
 ·obtain⟨g,b,rfl,n,u,p,y,-,m⟩:=Lib.holds_of_ownsRow a i
  have f:(Lib.compactUpTo l.toArray l.toArray.size).length<=l.length:=by
   unfold Lib.compactUpTo;rw[qq];refine qR (List.length_filter_le _ _) ?_;rw[List.length_range,List.size_toArray];exact qK _
  have h:=AnyE.slices_Compact Tryz.comp gL qK4 qK5 qK6 0 (fun w=>Tryz.zeroValue23 w) g 0 b l.toArray w m (by rw[List.size_toArray];omega) (by rw[List.size_toArray];exact p);rw[List.size_toArray]at h f ⊢;refine h.mono ?_;rintro e w'⟨rfl,q,rfl⟩;have d:=Lib.ownsRow_putRow (q:=q) (k:=(Lib.compactUpTo l.toArray l.length).length) (ys:=Lib.compactUpTo l.toArray l.length++List.replicate (l.length-(Lib.compactUpTo l.toArray l.length).length) 0) a (by rw[qL,List.length_replicate];omega) f;rw[List.take_left]at d;exact⟨_,_,rfl,d,Lib.below_putRow (qG _ _) n⟩
theorem qK8(v:Value)(l:List jI)(r:Nat)(w:World)(F:kB w v l)(Y:l.length<=1000)(aa:∀x∈l,ks x)(hr:r<18446744073709551616):
  Calls prog 176 #[v,.float .f64 r] w fun e w'=>∃t,e=.returned (.string t)/\bV l r t/\Below w.1.size w w':=by
 obtain⟨A,off,ao,rfl,-,-⟩:=F.form;have O:=qQ F;have ai:=qQ aa;have HP:=qQ fun W=>OH r W hr
 obtain⟨m,C⟩:∃m,l.length=m:=⟨_,rfl⟩
 have d:=qQ C;rw[C]at Y O ⊢;clear F aa hr C;go_enter func176,ntmps176;go_wp2;go_loopw [5,12] (fun sl i wr=>∃(k:Nat) (g:Value),k<=m/\i=.int .i64 k/\g=sl/\cC wr w.1.size g ((l.take k).map jI.h)/\Below w.1.size w wr) (fun _ i _=>m-(intOf i).toNat)
 case atStart=>exact⟨0,_,qI _,rfl,rfl,World.ownsRow_nil _ _ _ _,qG _ _⟩
 case round =>
  obtain⟨k,g,hk,rfl,rfl,f,c⟩:=hrel;have aw:=qQ c;by_cases aq:k<m
  ·obtain⟨x,G⟩:∃x,l[k]? = some x:=⟨_,qE (by rw[d.out];exact aq)⟩
   have V:kB wr (.slice A l.length ao) l:=(by rw[d.out];exact O.out.below c (qK _));obtain⟨bb,of,rfl,-,ax,d0,d1,d2⟩:=QA V G;have s1:(k:Int)<(m:Int):=(by omega);have s3:(k:Int)<=1000:=(by omega);have U:=(qG wr.1.size wr).alloc (qK _) (.cells #[.int .u64 (x.h:Nat),.int .i64 x.v,.int .i64 x.p] 117);have o:((l.take k).map jI.h).length<=10000:=(by rw[qq,qT];omega);obtain⟨I,c2,w3,j,q,X⟩:=qK3 (wr.alloc (.cells #[.int .u64 (x.h:Nat),.int .i64 x.v,.int .i64 x.p] 117)) w.1.size g _ x.h 272 (cC.below f U (qK _)) o (by have:=c.size;simp;omega);have S:(l.take k).map jI.h++[x.h]=(l.take (k+1)).map jI.h:=(by rw[Yp l k x G,List.map_append];rfl);rw[S]at q;obtain⟨len,Z⟩:∃len,((l.take k).map jI.h).length+1=len:=⟨_,rfl⟩
   rw[Z]at q j;have am:=qQ q;have ad:=qQ ((c.alloc c.size (.cells #[.int .u64 (x.h:Nat),.int .i64 x.v,.int .i64 x.p] 117)).trans X);have J:vL (wr.alloc (.cells #[.int .u64 (x.h:Nat),.int .i64 x.v,.int .i64 x.p] 117)) wr.1.size x.h x.v x.p:=jN.new _ _ _;have k0:=J.cell 0;obtain⟨H,ab⟩:∃H,wr.alloc (.cells #[.int .u64 (x.h:Nat),.int .i64 x.v,.int .i64 x.p] 117)=H:=⟨_,rfl⟩
   rw[ab]at j k0;have K:=qQ j;clear j q X S U V G o Z J f c;obtain⟨xh,xv,xp⟩:=x;simp only at d0 d1 d2 ab k0 K;go_wp2_with (first|(at_builtin;refine yC rfl _ _ rfl rfl rfl K.out ?_)|fail);go_roundw
   case rel=>exact⟨k+1,_,by omega,by go_num,rfl,am.out,ad.out⟩
   case measure=>simp[intOf];omega
  ·obtain rfl:k=m:=(by omega);have s1:¬(k:Int)<(k:Int):=(by omega);rw[<-d.out,List.take_length]at f;have o:(l.map jI.h).length<=1000:=(by rw[qq,d.out];exact Y);have u:=qQ (qK7 wr w.1.size g (l.map jI.h) f (by omega) c.size);have ap:=UE l;have au:(uL l).length<=1000:=(by have:=d.out;omega);have P:=qQ (PD ai.out);have L:=qQ (show Lib.compactUpTo (l.map jI.h).toArray (l.map jI.h).toArray.size=uL l from rfl);rw[L.out]at u;clear f o ap;go_wp2_with fail;refine u.out.mono ?_;rintro e H⟨I,c2,rfl,T,Q⟩;have N:=qQ T;have s:=qQ (c.trans Q);clear T Q c u;go_wp2_with fail;refine(HP.out _).mono ?_;rintro e w2⟨p,rfl,D,rfl⟩;have av:=UF D;have ar:=UH (n:=(uL l).length) (k:=(p:Nat)) (by omega);have aj:=qQ fun W=>OM ((uL l).length:Nat) (p:Nat) W
   have M:=qQ fun W (b:Int) (wb:(Lit.int .i64 b).wf=true) (z:dO gL W (.slice I (uL l).length c2) (uL l))=>Tn _ _ (p:Nat) b W z P.out (by omega) (WalkArith.wf_i64 (by omega)) wb
   obtain⟨b,B⟩:∃b:Int,(480*(ct (uL l).length (p:Nat):Nat):Int)=b:=⟨_,rfl⟩
   have af:=qQ (show fo (bs (dL (uL l) (p:Nat) b)) (p:Nat)=QU l p by rw[<-B];rfl);have ag:=qQ (show bV l r (QU l p) from⟨p,D,rfl⟩);have ac:(Lit.int .i64 b).wf=true:=WalkArith.wf_i64 (by omega);have hw:IntKind.i64.wrap (480*(ct (uL l).length (p:Nat):Nat):Int)=b:=(by rw[B];exact qz _ ⟨by omega,by omega⟩);have an:=qQ ac;have ah:=qQ fun W z=>M.out W b an.out z
   have ak:=qQ fun(a:Tw) W=>qJp a (p:Nat) W
   have al:=qQ (dO.xy gL N.out);generalize dL (uL l) (p:Nat) b=mk at*;generalize ct (uL l).length (p:Nat)=pg at*;clear D av ar B ac M N P L au;generalize (uL l).length=hn at*;go_wp2_with fail;refine X5 (aj.out _) ?_;go_wp2_with fail;refine KG (ah.out _ al.out) fun w4 y=>?_;go_wp2_with fail;refine KG (ak.out _ _) fun w5 R=>?_;have ae:=qQ ((s.out.trans (y.mono s.out.size)).trans (R.mono (qR s.out.size y.size)));clear y R;go_wp2;go_ret;exact⟨_,by rw[af.out];rfl,ag.out,ae.out⟩
end
end Go.Proofs.YthejglbnkmimjaaGreat
