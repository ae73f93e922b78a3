import Derived.Test.YtokbfellcadkpaaGreatPp08
import Derived.Test.YtokbfellcadkpaaGreatPp25
import Derived.Test.YtokbfellcadkpaaGreatPp23
import Derived.Test.YtokbfellcadkpaaGreatPp31
import Derived.Lib.OwnBridge
set_option linter.unusedVariables false
set_option maxRecDepth 100000
set_option maxHeartbeats 9000000
namespace Go.Proofs.YtokbfellcadkpaaGreat
open Tryz
section
open Go.RowKit
abbrev bw(w:World)(base:Nat)(v:Value)(l:List Nat):Prop:=w.ownsRow base 23 1 v l.length (l.map um)
theorem qJf: (prog.info? 23).map (fun i=>(i.zero,i.size,i.bytes))=some (some (.int .u64 0),1,8):=by kernel_rfl
theorem bw.below{w w':World}{base B:Nat}{v:Value}{l:List Nat}(h:bw w base v l)(i:Below B w w')(f:w.heap.size<=B):bw w' base v l:=by
 refine⟨h.1, ?_⟩;rcases h.2 with d|⟨g,b,c,m,j,a,r⟩
 ·exact qX d
 ·obtain⟨k,_⟩:=qm.1 a;exact qY ⟨g,b,c,m,j,(i.block g (qR k f)).trans a,r⟩
theorem bw.own{w:World}{base:Nat}{v:Value}{l:List Nat}(h:bw w base v l):∀k,v.ownBlock=some k->base<=k:=fun k a=>(h.lt k a).1
theorem qJh(w:World)(x:Nat):dg (w.alloc (.cells #[.int .u64 (x:Nat)] 23)) 1 (.slice (some ⟨w.heap.size,0,none⟩) 1 1) 1 [um x] :=
 ⟨rfl,qY ⟨_,1,rfl,fun j u a=>by
  match j,a with
  | 0,a =>
    obtain rfl:um x=u:=(by simpa using a);have:=(jY.new w 23 #[.int .u64 (x:Nat)]).cell 0;exact this⟩⟩
theorem qJl(w:World)(base:Nat)(v:Value)(l:List Nat)(x:Nat)(f:TypeId)(m:bw w base v l)(t:l.length<=10000)(j:base<=w.heap.size):
  ∃A c w',(Builtin.append_ #[247,247] f #[v,.slice (some ⟨w.heap.size,0,none⟩) 1 1]).run prog (w.alloc (.cells #[.int .u64 (x:Nat)] 23)) = .ok (.slice A (l.length+1) c) w'/\bw w' base (.slice A (l.length+1) c) (l++[x])/\Below base w w':=by
 obtain⟨r,k,o,p,q⟩:=info_parts qJf;have d:=(Below.refl w.heap.size w).alloc (qK _) (.cells #[.int .u64 (x:Nat)] 23);have b:=bw.below m d (qK _);obtain⟨y,w',g,a,i,s⟩:=fE (P:=prog) _ base 247 23 r _ 1 8 f Tryz.underlying247 k o p q rfl (by decide) v l.length (l.map um) b _ 1 [um x] (qJh w x) (fun u n=>by rw[qH.1 n];rfl) (by unfold maxLen;omega) (by omega) (by simp;omega);obtain⟨A,c,rfl,-,-,-⟩:=yw a;refine⟨A,c,w',g,by unfold bw;rw[qI,List.map_append];exact a,(d.mono j).grown i (by simp;omega) (bw.own b)⟩
theorem qJm: OneCell um:=fun x=>rfl
theorem qJn: EqlAt prog 23 um (fun x y=>decide (x=y)):=⟨fun x y w=>by
 have h:=(EqlAt.int prog 23 .u64).1 (x:Int) (y:Int) w;unfold um;rw[h];by_cases e:x=y
 ·subst e;simp
 ·have:¬(x:Int)=(y:Int):=by omega
  simp[e,this],fun c a b x y w=>(EqlAt.int prog 23 .u64).2 c a b (x:Int) (y:Int) w⟩
theorem qJp: NeqAt prog 23 um (fun x y=>decide (x=y)):=⟨fun x y w=>by
 have h:=(NeqAt.int prog 23 .u64).1 (x:Int) (y:Int) w;unfold um;rw[h];by_cases e:x=y
 ·subst e;simp
 ·have:¬(x:Int)=(y:Int):=by omega
  simp[e,this],fun c a b x y w=>(NeqAt.int prog 23 .u64).2 c a b (x:Int) (y:Int) w⟩
theorem qJr(w:World)(base:Nat)(v:Value)(l:List Nat)(a:bw w base v l)(t:l.length<=100000)(s:base<=w.heap.size):
  Calls prog 201 #[v] w fun e w'=>∃A c,e = .returned (.slice A (Lib.compactUpTo l.toArray l.toArray.size).length c)/\bw w' base (.slice A (Lib.compactUpTo l.toArray l.toArray.size).length c) (Lib.compactUpTo l.toArray l.toArray.size)/\Below base w w':=by
 by_cases i:v = .slice none 0 0
 ·subst i
  have o:l=[]:=by
   rcases a.2 with⟨-,e⟩|⟨g,b,r,e,-⟩
   ·exact List.length_eq_zero_iff.1 e
   ·cases e
  subst o;have j:(Lib.compactUpTo ([]:List Nat).toArray ([]:List Nat).toArray.size)=[]:=rfl;rw[j];go_enter func201,ntmps201;go_wp2;go_ret;exact⟨none,0,rfl,a,Below.refl _ _⟩
 ·obtain⟨g,b,rfl,n,u,p,y,-,m⟩:=Lib.holds_of_ownsRow a i
  have f:(Lib.compactUpTo l.toArray l.toArray.size).length<=l.length:=by
   unfold Lib.compactUpTo;rw[qj];refine qO (List.length_filter_le _ _) ?_;rw[List.length_range,List.size_toArray];exact qK _
  have h:=AnyE.slices_Compact Tryz.comp um qJm qJn qJp 0 (fun w=>Tryz.zeroValue23 w) g 0 b l.toArray w m (by rw[List.size_toArray];omega) (by rw[List.size_toArray];exact p);rw[List.size_toArray]at h f ⊢;refine h.mono ?_;rintro e w'⟨rfl,q,rfl⟩;have d:=Lib.ownsRow_putRow (q:=q) (k:=(Lib.compactUpTo l.toArray l.length).length) (ys:=Lib.compactUpTo l.toArray l.length++List.replicate (l.length-(Lib.compactUpTo l.toArray l.length).length) 0) a (by rw[qI,List.length_replicate];omega) f;rw[List.take_left]at d;exact⟨_,_,rfl,d,Lib.below_putRow (Below.refl _ _) n⟩
theorem qJs(v:Value)(l:List jJ)(r:Nat)(w:World)(F:ju w v l)(Y:l.length<=1000)(aa:∀x∈l,kI x)(hr:r<18446744073709551616):
  Calls prog 161 #[v,.float .f64 r] w fun e w'=>∃t,e = .returned (.string t)/\gP l r t/\Below w.heap.size w w':=by
 obtain⟨A,off,ao,rfl,-,-⟩:=F.form;have O:=qQ F;have ai:=qQ aa;have HP:=qQ fun W=>MD r W hr
 obtain⟨m,C⟩:∃m,l.length=m:=⟨_,rfl⟩
 have d:=qQ C;rw[C]at Y O ⊢;clear F aa hr C;go_enter func161,ntmps161;go_wp2;go_loopw [5,12] (fun sl i wr=>∃(k:Nat) (g:Value),k<=m/\i = .int .i64 k/\g=sl/\bw wr w.heap.size g ((l.take k).map jJ.h)/\Below w.heap.size w wr) (fun _ i _=>m-(intOf i).toNat)
 case atStart=>exact⟨0,_,qF _,rfl,rfl,World.ownsRow_nil _ _ _ _,Below.refl _ _⟩
 case round =>
  obtain⟨k,g,hk,rfl,rfl,f,c⟩:=hrel;have aw:=qQ c;by_cases aq:k<m
  ·obtain⟨x,G⟩:∃x,l[k]? = some x:=⟨_,qC (by rw[d.out];exact aq)⟩
   have V:ju wr (.slice A l.length ao) l:=(by rw[d.out];exact O.out.below c (qK _));obtain⟨bb,of,rfl,-,ax,d0,d1,d2⟩:=oG V G;have s1:(k:Int)<(m:Int):=(by omega);have s3:(k:Int)<=1000:=(by omega);have U:=(Below.refl wr.heap.size wr).alloc (qK _) (.cells #[.int .u64 (x.h:Nat),.int .i64 x.v,.int .i64 x.p] 63);have o:((l.take k).map jJ.h).length<=10000:=(by rw[qj,qS];omega);obtain⟨I,c2,w3,j,q,X⟩:=qJl (wr.alloc (.cells #[.int .u64 (x.h:Nat),.int .i64 x.v,.int .i64 x.p] 63)) w.heap.size g _ x.h 247 (bw.below f U (qK _)) o (by have:=c.size;simp;omega);have S:(l.take k).map jJ.h++[x.h]=(l.take (k+1)).map jJ.h:=(by rw[ZA l k x G,List.map_append];rfl);rw[S]at q;obtain⟨len,Z⟩:∃len,((l.take k).map jJ.h).length+1=len:=⟨_,rfl⟩
   rw[Z]at q j;have am:=qQ q;have ad:=qQ ((c.alloc c.size (.cells #[.int .u64 (x.h:Nat),.int .i64 x.v,.int .i64 x.p] 63)).trans X);have J:yj (wr.alloc (.cells #[.int .u64 (x.h:Nat),.int .i64 x.v,.int .i64 x.p] 63)) wr.heap.size x.h x.v x.p:=jY.new _ _ _;have k0:=J.cell 0;obtain⟨H,ab⟩:∃H,wr.alloc (.cells #[.int .u64 (x.h:Nat),.int .i64 x.v,.int .i64 x.p] 63)=H:=⟨_,rfl⟩
   rw[ab]at j k0;have K:=qQ j;clear j q X S U V G o Z J f c;obtain⟨xh,xv,xp⟩:=x;simp only at d0 d1 d2 ab k0 K;go_wp2_with (first | (at_builtin;refine yI rfl _ _ rfl rfl rfl K.out ?_) | fail);go_roundw
   case rel=>exact⟨k+1,_,by omega,by go_num,rfl,am.out,ad.out⟩
   case measure=>simp[intOf];omega
  ·obtain rfl:k=m:=(by omega);have s1:¬(k:Int)<(k:Int):=(by omega);rw[<-d.out,List.take_length]at f;have o:(l.map jJ.h).length<=1000:=(by rw[qj,d.out];exact Y);have u:=qQ (qJr wr w.heap.size g (l.map jJ.h) f (by omega) c.size);have ap:=Ui l;have au:(yi l).length<=1000:=(by have:=d.out;omega);have P:=qQ (SR ai.out);have L:=qQ (show Lib.compactUpTo (l.map jJ.h).toArray (l.map jJ.h).toArray.size=yi l from rfl);rw[L.out]at u;clear f o ap;go_wp2_with fail;refine u.out.mono ?_;rintro e H⟨I,c2,rfl,T,Q⟩;have N:=qQ T;have s:=qQ (c.trans Q);clear T Q c u;go_wp2_with fail;refine(HP.out _).mono ?_;rintro e w2⟨p,rfl,D,rfl⟩;have av:=Uo D;have ar:=Uw (n:=(yi l).length) (k:=(p:Nat)) (by omega);have aj:=qQ fun W=>MH ((yi l).length:Nat) (p:Nat) W
   have M:=qQ fun W (b:Int) (wb:(Lit.int .i64 b).wf=true) (z:dB um W (.slice I (yi l).length c2) (yi l))=>qJW _ _ (p:Nat) b W z P.out (by omega) (WalkArith.wf_i64 (by omega)) wb
   obtain⟨b,B⟩:∃b:Int,(480*(cg (yi l).length (p:Nat):Nat):Int)=b:=⟨_,rfl⟩
   have af:=qQ (show fq (bs (dG (yi l) (p:Nat) b)) (p:Nat)=tm l p by rw[<-B];rfl);have ag:=qQ (show gP l r (tm l p) from⟨p,D,rfl⟩);have ac:(Lit.int .i64 b).wf=true:=WalkArith.wf_i64 (by omega);have hw:IntKind.i64.wrap (480*(cg (yi l).length (p:Nat):Nat):Int)=b:=(by rw[B];exact IntWalk.i64_in _ ⟨by omega,by omega⟩);have an:=qQ ac;have ah:=qQ fun W z=>M.out W b an.out z
   have ak:=qQ fun(a:Tw) W=>qJd a (p:Nat) W
   have al:=qQ (dB.xL um N.out);generalize dG (yi l) (p:Nat) b=mk at*;generalize cg (yi l).length (p:Nat)=pg at*;clear D av ar B ac M N P L au;generalize (yi l).length=hn at*;go_wp2_with fail;refine(aj.out _).mono ?_;rintro e w3⟨rfl,rfl⟩;go_wp2_with fail;refine(ah.out _ al.out).mono ?_;rintro e w4⟨rfl,y⟩;go_wp2_with fail;refine(ak.out _ _).mono ?_;rintro e w5⟨rfl,R⟩;have ae:=qQ ((s.out.trans (y.mono s.out.size)).trans (R.mono (qO s.out.size y.size)));clear y R;go_wp2;go_ret;exact⟨_,by rw[af.out];rfl,ag.out,ae.out⟩
end
end Go.Proofs.YtokbfellcadkpaaGreat
