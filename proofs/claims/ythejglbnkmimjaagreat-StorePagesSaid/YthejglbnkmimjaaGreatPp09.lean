import Derived.RangeFuncNested
import Derived.RangeFuncBound
import Derived.OwnWalkIn
import Derived.TacticsInMore
import Derived.LoopNIn
import Derived.LoopIn
import Derived.Stop.RegionWithIn
import Derived.Test.YthejglbnkmimjaaGreatPp07
set_option linter.unusedVariables false
set_option maxRecDepth 100000
set_option maxHeartbeats 9000000
namespace Go.Proofs.YthejglbnkmimjaaGreat
open Proofs.Tryz
section
open Go.RowKit Go.Shelf
attribute [local go_sem] Oper.semAt_some
abbrev nI(h:Nat)(p b:Int) := { k:Nat // k∈gJ h p b }
def Q1{h:Nat}{p b:Int}(x:nI h p b):Array Value:=#[.int .i64 (x.1:Nat)]
def cz{h:Nat}{p b:Int}(a:List (nI h p b)):List Nat:=a.map (·.1)
theorem Tg{h:Nat}{p b:Int}:cz ([]:List (nI h p b))=[]:=rfl
theorem Gl{h:Nat}{p b:Int}(a:List (nI h p b))(x:nI h p b):cz (a++[x])=cz a++[x.1]:=by simp[cz]
def nL(A B C:Nat)(W a:World):Prop:=a.heap[A]? = W.heap[A]?/\a.heap[B]? = W.heap[B]?/\a.heap[C]? = W.heap[C]?
theorem Tb{A B C:Nat}{X Y Z:World}(h:nL A B C X Y)(k:nL A B C Y Z):nL A B C X Z:=⟨Eq.trans k.1 h.1,Eq.trans k.2.1 h.2.1,Eq.trans k.2.2 h.2.2⟩
theorem Tc{A B C:Nat}{w:World}(f:A<w.1.size)(b:B<w.1.size)(g:C<w.1.size)(W:World)(l:Nat)(o d:Obj)(i:w.1.size<=l)(h:W.heap[l]? = some o)(_ : o.isCells=false)(_ : o.isWalk=false):nL A B C W (W.putObj l d):=by
 have j:=(qn.1 h).1;have a:=fun(B:Nat) (b:B<w.1.size)=>(grownBy_putObj' W l d).block B (by omega) (fun e=>by cases e;omega)
 exact⟨a A f,a B b,a C g⟩
theorem Td(n:Nat)(hn:1<=n)(l o m j g:Nat)(p b:Int)(Z:g<18446744073709551616)(wp:(Lit.int .i64 p).wf=true)(wb:(Lit.int .i64 b).wf=true)(J A:List (nI g p b)->World->Prop)(W:World)(hJ:AbidesFrom W.1.size J)
  (Y:∀a x r,J a r->a.length<64->YieldAt Fence.wide (n-1) prog l (Q1 x) r fun e d =>
   (e=.returned (.bool true)/\J (a++[x]) d/\nL o m j r d)∨(e=.returned (.bool false)/\A (a++[x]) d))
  (B:Boxed W o 3 (.int .i64 p)) (T:Boxed W m 23 (.int .u64 (g:Nat))) (S:Boxed W j 3 (.int .i64 b)) (R:J [] W):
  CallsIn Fence.wide n prog 298 #[.func (.yield l) #[] #[],.pointer (some ⟨o,0,none⟩),.pointer (some ⟨m,0,none⟩),.pointer (some ⟨j,0,none⟩)] W fun e d=>(∃v,e=.returned v) /\
   ((∃ys,cz ys=gJ g p b/\J ys d)∨(∃a,True/\A a d)):=by
 have ae:=He p;have bp:=bounds_i64 wp;refine callsIn_of_wp func298 rfl trivial ?_ rfl;simp only[ntmps298,List.size_toArray,List.length_cons,List.length_nil,Nat.reduceAdd,Nat.reduceSub,Array.replicate_succ,Array.replicate_zero,List.push_toArray,List.append_toArray,List.nil_append,List.cons_append];have af:=B.cell;have ag:(nps p:Int)=max 0 (min p 64):=by unfold nps;omega
 have M:=qQ (Hw g p b);have O:=qQ fun(i:Nat) (F:i<nps p)=>show prb g (i:Nat) b∈gJ g p b from tX.2 ⟨i,F,rfl⟩
 have Q:=qQ fun(i:Nat)=>Ho g b i
 have P:=qQ fun(i:Nat) (w:World) (F:i<64)=>Vo g (i:Nat) b w Z (WalkArith.wf_i64 (by omega)) wb
 gi_wp2
 all_goals
  gi_loopw [8] (fun f wr=>∃(k:Nat) (a:List (nI g p b)),k<=nps p/\a.length=k/\f=.int .i64 k/\cz a=pc g b k/\J a wr/\Boxed wr o 3 (.int .i64 p)/\Boxed wr m 23 (.int .u64 (g:Nat))/\Boxed wr j 3 (.int .i64 b))
   (fun f _=>nps p-(intOf f).toNat)
  case atStart=>exact⟨0,[],qI _,rfl,rfl,rfl,R,B,T,S⟩
  case round =>
   obtain⟨k,a,hk,ab,rfl,G,C,q1,I,K⟩:=hrel;by_cases aa:k<nps p
   ·have c2:=I.cell;have c3:=K.cell;have y:=qQ fun w=>P.out k w (by omega)
    have u:=qQ (Q.out k);obtain⟨x,t,H⟩:∃x,∃t:x∈gJ g p b,prb g (k:Nat) b=x:=⟨_,O.out k aa,rfl⟩
    rw[H]at y u;have q:=qQ (Y a ⟨x,t⟩ wr C (by omega));have z:=qQ (Gl a ⟨x,t⟩);unfold Q1 at q;simp only at q z;clear H
    gi_wp2
    refine⟨trivial, ?_⟩;refine(callsIn_wide.2 (y.out _)).mono ?_;rintro e w1⟨rfl,rfl⟩;obtain⟨fn,ah,ac,ad,hy,X⟩:=q.out
    gi_wp2
    refine X.mono ?_;rintro e W3 (⟨rfl,U,r1,r2,r3⟩|⟨rfl,V⟩)
    ·gi_wp2
     go_roundw
     case rel =>
      exact⟨k+1,_,by omega,by rw[qL,ab];rfl,by go_num,by rw[z.out,u.out,G],U,Eq.trans r1 q1,Eq.trans r2 I,Eq.trans r3 K⟩
     case measure=>simp[intOf];omega
    ·gi_wp2
     refine bodyPost_ret (results_none rfl _ _ _) rfl ?_;exact⟨⟨_,rfl⟩,.inr ⟨_,trivial,V⟩⟩
   ·obtain rfl:k=nps p:=(by omega);have N:=qQ (qU (G.trans M.out) C)
    gi_wp2
    go_end0;exact⟨⟨_,rfl⟩,.inl ⟨a,N.out⟩⟩
theorem Q2{W a:World}{B:Nat}{t:TypeId}{v:Value}(h:Boxed W B t v)(b:Below W.1.size W a):Boxed a B t v:=(b.block B h.lt).trans h
theorem Tf(n:Nat)(v:1<=n)(f d a g:Nat)(p b:Int)(u:g<18446744073709551616)(z:(Lit.int .i64 p).wf=true)(y:(Lit.int .i64 b).wf=true)(w:World)
  (q:Boxed w f 3 (.int .i64 p)) (o:Boxed w d 23 (.int .u64 (g:Nat))) (m:Boxed w a 3 (.int .i64 b)):
  SeqStopsK Fence.wide n prog 298 #[.pointer (some ⟨f,0,none⟩),.pointer (some ⟨d,0,none⟩),.pointer (some ⟨a,0,none⟩)] (Q1 (h:=g) (p:=p) (b:=b)) (nL f d a)
   (fun ys=>cz ys=gJ g p b) (fun _=>True) 64 w:=fun l J j W i r _ t k =>
 Td n v l f d a g p b u z y J j W r t (Q2 q i) (Q2 o i) (Q2 m i) k
theorem Th(n:Nat)(g p b:Int)(w:World):
  CallsIn Fence.wide n prog 266 #[.int .u64 g,p,b] w fun e w'=>e=.returned (.func (.func 298) #[] #[.pointer (some ⟨w.1.size+1,0,none⟩),.pointer (some ⟨w.1.size,0,none⟩),.pointer (some ⟨w.1.size+2,0,none⟩)]) /\
   w'=((w.alloc (.cells #[.int .u64 g] 23)).alloc (.cells #[p] 3)).alloc (.cells #[b] 3):=by
 refine callsIn_of_wp func266 rfl trivial ?_ rfl;simp only[ntmps266,List.size_toArray,List.length_cons,List.length_nil,Nat.reduceAdd,Nat.reduceSub,Array.replicate_succ,Array.replicate_zero,List.push_toArray,List.append_toArray,List.nil_append,List.cons_append]
 gi_wp2
 go_ret;exact⟨rfl,rfl⟩
end
section
open Go.RowKit Go.Shelf
attribute [local go_sem] Oper.semAt_some
theorem dO.form{a:Nat->Value}{w:World}{v:Value}{l:List Nat}(h:dO a w v l):∃A c,v=.slice A l.length c:=by
 rcases h with⟨rfl,A,c,rfl⟩|⟨_,b,off,c,rfl,_⟩
 ·exact⟨A,c,rfl⟩
 ·exact⟨_,c,rfl⟩
theorem dO.at{a:Nat->Value}{w:World}{A:Option Addr}{c:Nat}{l:List Nat}(h:dO a w (.slice A l.length c) l)(d:0<l.length):
  ∃b off,A=some ⟨b,off,none⟩/\b<w.1.size/\l.length<=c/\∀i,i<l.length->w.cell? ⟨b,off+i,none⟩=some (a (l.getD i 0)):=by
 rcases h with⟨rfl,_⟩|⟨_,b,off,cap,j,g,f,k⟩
 ·cases d
 ·cases j;exact⟨b,off,rfl,f,g,k⟩
theorem Tl(v:Value)(l:List Nat)(p b:Int)(w:World)(o:dO gL w v l)(f:(Lit.int .i64 b).wf=true)(a:lz b=false):
  Calls prog 230 #[v,p,b] w (X3 (.string (bs (dL l p b))) w):=by
 have g:=bounds_i64 f;have n:¬(1<=b/\b<=1000000/\b%8=0):=by unfold lz at a;exact of_decide_eq_false a
 rw[LW a];go_enter func230,ntmps230;by_cases i:b<1
 ·go_wp2;go_ret;exact⟨rfl,qG _ _⟩
 ·by_cases j:1000000<b
  ·go_wp2;go_ret;exact⟨rfl,qG _ _⟩
  ·obtain⟨m,rfl⟩:∃m:Nat,b=m:=⟨b.toNat,by omega⟩
   have d:¬(m:Int)%8=0:=(by omega);have k:((m:Int)%8 != 0)=true:=(by simpa using d);go_wp2;go_ret;exact⟨rfl,qG _ _⟩
structure Gm(w:World)(b p:Int)(n:Nat)(l:List Nat)(k:Nat)(Ds:List Nat)(W:World):Prop where
 box:Boxed W (w.1.size+1) 154 (.slice (some ⟨w.1.size,0,none⟩) n n)
 row:RowB W w.1.size n (fun i=>.int .u8 (byL (fK (l.take k) p b) i:Nat))
 below:Below w.1.size w W
 defs:gI (w.1.size+2) Ds W
theorem Tm(v:Value)(l:List Nat)(p:Int)(m n:Nat)(w:World)(hv:dO gL w v l)(wl:Xz l)(hl:l.length<=1000)(wp:(Lit.int .i64 p).wf=true)(S:m=8*n)(aA:0<n)(hn:n<=125000):
  Calls prog 230 #[v,p,m] w (X3 (.string (bs (lx (fK l p (m:Nat)) n))) w):=by
 obtain⟨A,c,rfl⟩:=hv.form;have wb:(Lit.int .i64 (m:Nat)).wf=true:=WalkArith.wf_i64 (by omega);have h1:¬(m:Int)<1:=by omega
 have h2:¬1000000<(m:Int):=by omega
 have h3:((m:Int)%8 != 0)=false:=by simp;omega
 have h4:IntKind.i64.wrap ((m:Int)/8)=(n:Int):=by rw[IntKind.wrap_i64];omega
 have J:=run_make_row' (P:=prog) 154 5 (.int .u8 0) 1 Tryz.underlying154 (by kernel_rfl) rfl .i64 .i64 n (by omega) (by omega);have aa:=Fc w (.int .u8 0) n 5;obtain⟨Z,hZ⟩:∃Z,madeCells #[Value.int .u8 0] n=Z:=⟨_,rfl⟩
 rw[hZ]at J aa;clear hZ;refine(callsIn_wide (n:=8)).1 ?_;refine callsIn_of_wp_marks func230 rfl trivial ?_ rfl;simp only[ntmps230,List.size_toArray,List.length_cons,List.length_nil,Nat.reduceAdd,Nat.reduceSub,Array.replicate_succ,Array.replicate_zero,List.push_toArray,List.append_toArray,List.nil_append,List.cons_append];have HM:=qQ S;clear S;have aq:=qQ (LU p (m:Nat))
 have ae:Gm w (m:Nat) p n l 0 [] ((w.alloc (.cells Z 5)).alloc (.cells #[.slice (some ⟨w.1.size,0,none⟩) n n] 154)):=by
  refine⟨?_,(aa.alloc _).congr fun i _=>?_,((qG _ w).alloc (qK _) _).alloc (by simp) _,gI.nil _ _⟩
  ·have h:=Boxed.new (w.alloc (.cells Z 5)) 154 (.slice (some ⟨w.1.size,0,none⟩) n n);rw[World.size_alloc]at h;exact h
  ·rw[List.take_zero,aq.out,LV];rfl
 clear aa
 gi_wp2
 refine wpIn_loop (fun X w'=>∃(k:Nat) (q:List Nat) (u3 u4 u5 u6 u8 u9 u10 u11 u12 u13 u14 u15 u16 u17 u18 u19 u20 u21 u22 u23 u24 u27 u28 u29 u30 u31 u32 u33 u34 u35 u36 u37 u38 u39 u40 u41 u42 u43 u44 u45 u46 u47:Value),(k<=l.length/\u27=.int .i64 (k:Nat)/\Gm w (m:Nat) p n l k q w')/\X={ tmps:=#[.slice A l.length c,.int .i64 p,.int .i64 (m:Nat),u3,u4,u5,u6,.pointer (some ⟨w.1.size+1,0,none⟩),u8,u9,u10,u11,u12,u13,u14,u15,u16,u17,u18,u19,u20,u21,u22,u23,u24,.slice A l.length c,.int .i64 (l.length:Nat),u27,u28,u29,u30,u31,u32,u33,u34,u35,u36,u37,u38,u39,u40,u41,u42,u43,u44,u45,u46,u47],defers:=q.map Kh })
  (fun X _=>l.length-(intOf (X.tmps.getD 27 undef)).toNat) ?atStart ?round
 case atStart=>exact⟨0,[],_,_,_,_,_,_,_,_,_,_,_,_,_,_,_,_,_,_,_,_,_,_,_,_,_,_,_,_,_,_,_,_,_,_,_,_,_,_,_,_,_,_,⟨qI _,rfl,ae⟩,rfl⟩
 case round =>
  rintro _ wr⟨k,q,u3,u4,u5,u6,u8,u9,u10,u11,u12,u13,u14,u15,u16,u17,u18,u19,u20,u21,u22,u23,u24,u27,u28,u29,u30,u31,u32,u33,u34,u35,u36,u37,u38,u39,u40,u41,u42,u43,u44,u45,u46,u47,⟨hk,rfl,a⟩,rfl⟩;clear ae J;by_cases ac:k<l.length
  ·obtain⟨V,off,rfl,ar,ax,ai⟩:=hv.at (by omega);have aj:=(a.below.cell (p:=⟨V,off+k,none⟩) ar).trans (ai k ac);have hg:=NU wl k;have HT:=qQ (NG l k ac);unfold gL at aj;generalize l.getD k 0=g at*;have s1:(k:Int)<(l.length:Int):=(by omega);clear ai
   gi_wp2
   refine⟨trivial, ?_⟩;refine(Th _ _ _ _ _).mono ?_;rintro e w'⟨rfl,rfl⟩
   gi_wp2
   have G:Below wr.1.size wr (((wr.alloc (.cells #[.int .u64 (g:Nat)] 23)).alloc (.cells #[p] 3)).alloc (.cells #[m] 3)):=(((qG _ wr).alloc (qK _) _).alloc (by simp) _).alloc (by simp;omega) _;obtain⟨b,H⟩:∃b,(((wr.alloc (.cells #[.int .u64 (g:Nat)] 23)).alloc (.cells #[p] 3)).alloc (.cells #[m] 3))=b:=⟨_,rfl⟩
   have aB:b.1.size=wr.1.size+3:=(by rw[<-H];simp);have b0:Boxed b wr.1.size 23 (.int .u64 (g:Nat)):=by rw[<-H];exact((Boxed.new wr 23 (.int .u64 (g:Nat))).alloc _).alloc _
   have b1:Boxed b (wr.1.size+1) 3 (.int .i64 p):=by
    have h:=Boxed.new (wr.alloc (.cells #[.int .u64 (g:Nat)] 23)) 3 (.int .i64 p);rw[World.size_alloc]at h;rw[<-H];exact h.alloc _
   have b2:Boxed b (wr.1.size+2) 3 (.int .i64 (m:Nat)):=by
    have h:=Boxed.new ((wr.alloc (.cells #[.int .u64 (g:Nat)] 23)).alloc (.cells #[p] 3)) 3 (.int .i64 (m:Nat));rw[World.size_alloc,World.size_alloc]at h;rw[<-H];exact h
   rw[H]at G ⊢;clear H;obtain⟨t,Y⟩:∃t,fK (l.take k) p (m:Nat)=t:=⟨_,rfl⟩
   have ag:=Q2 a.box G;have I:=a.row.below G;have af:=bj a.below G;rw[Y]at I;have ad:∀D∈q,D<b.1.size:=fun D u=>qS (a.defs.lt u) G.size
   have ak:gI (w.1.size+2) q b:=⟨a.defs.1,fun D u=>⟨(a.defs.2 D u).1,(G.block D (a.defs.lt u)).trans (a.defs.2 D u).2⟩⟩
   have av:w.1.size+2<=wr.1.size:=a.box.lt;have ap:=qQ HM.out;have ao:=qQ Y;clear a G aj Y
   refine wpIn_rangeFunc_ownG rfl (by omega) (gf:=298) (lb:=#[.pointer (some ⟨wr.1.size+1,0,none⟩),.pointer (some ⟨wr.1.size,0,none⟩),.pointer (some ⟨wr.1.size+2,0,none⟩)]) rfl trivial (enters_of func298 (by kernel_rfl) rfl)
    (Tf _ (by omega) (wr.1.size+1) wr.1.size (wr.1.size+2) g p (m:Nat) hg wp wb b b1 b0 b2) Tb (Tc (by omega) (by omega) (by omega)) (qG _ _) (fun _=>rfl)
    (fun o W=>((Boxed W (w.1.size+1) 154 (.slice (some ⟨w.1.size,0,none⟩) n n)/\RowB W w.1.size n (fun i=>.int .u8 (byL (t++cz o) i:Nat)))/\Below w.1.size w W)/\gI (w.1.size+2) q W)
    (fun _ _ _=>False)
    (OwnFrom.and (OwnFrom.and (OwnFrom.and (Own.from (boxed_own (w.1.size+1) 154 (fun _=>.slice (some ⟨w.1.size,0,none⟩) n n)) _) (Own.from (RowB.own w.1.size n (fun o i=>.int .u8 (byL (t++cz o) i:Nat))) _)) (ownFrom_below (qK _) (by omega))) (Fh ad))
    (fun _ _ _ _ _ hs _ _=>hs)
    ⟨⟨⟨ag,by simpa only[Tg,List.append_nil] using I⟩,af⟩,ak⟩
    (fun x=>{ tmps:=#[.slice (some ⟨V,off,none⟩) l.length c,.int .i64 p,.int .i64 (m:Nat),u3,u4,u5,u6,.pointer (some ⟨w.1.size+1,0,none⟩),u8,.int .u64 (g:Nat),.int .i64 (x.1:Nat),u11,u12,u13,u14,u15,u16,u17,u18,u19,u20,u21,u22,u23,u24,.slice (some ⟨V,off,none⟩) l.length c,.int .i64 (l.length:Nat),.int .i64 (k:Nat),.bool true,.pointer (some ⟨V,off+k,none⟩),.int .u64 (g:Nat),.int .u64 (g:Nat),.int .i64 p,.int .i64 (m:Nat),.func (.func 298) #[] #[.pointer (some ⟨wr.1.size+1,0,none⟩),.pointer (some ⟨wr.1.size,0,none⟩),.pointer (some ⟨wr.1.size+2,0,none⟩)],.int .i64 (x.1:Nat),u36,u37,u38,u39,u40,u41,u42,u43,u44,u45,u46,u47],defers:=[] })
    ?assign ?body ?done ?stop
   case assign =>
    rintro lo x W K N;unfold Q1
    gi_wp2
    exact N
   case body =>
    rintro lo o⟨x,hx⟩ W ⟨⟨⟨r,d⟩,C⟩,F⟩ ay;have az:x<m:=(by have:=Hi (by omega) hx;omega);obtain⟨y,T⟩:∃y,x/8=y:=⟨_,rfl⟩
    have an:y<n:=(by have:=ap.out;omega);have s2:(y:Int)<(n:Int):=(by omega);have s3:IntKind.i64.wrap ((x:Int)/8)=(y:Int):=(by rw[IntKind.wrap_i64];omega);have c7:=r.cell;have cR:=d.cell an;have fR:=d.frozen an;have HK:=qQ fun W=>NY x W (by omega)
    have al:=Xq (Nat.mod_lt x (by decide):x%8<8);have ah:=mf (t++cz o) y;have z:=LJ (t++cz o) x;rw[T]at z;obtain⟨U,J⟩:∃U,2 ^ (x%8)=U:=⟨_,rfl⟩
    rw[J]at HK al z;obtain⟨M,ab⟩:∃M,byL (t++cz o) y=M:=⟨_,rfl⟩
    simp only[ab]at cR ah z;have hA:=u8_or_nat M U ah al;obtain⟨f,am⟩:∃f,M|||U=f:=⟨_,rfl⟩
    rw[am]at z hA;have HI:=qQ (qU r (qU d (qU C (qU F (qU z T)))));have HV:=qQ (Gl o ⟨x,hx⟩);clear ab am J z
    have au:KeepsFrom b.1.size W (W.setCell ⟨w.1.size,y,none⟩ (.int .u8 (f:Nat))).drew/\nL (wr.1.size+1) wr.1.size (wr.1.size+2) W (W.setCell ⟨w.1.size,y,none⟩ (.int .u8 (f:Nat))).drew /\
      (((Boxed (W.setCell ⟨w.1.size,y,none⟩ (.int .u8 (f:Nat))).drew (w.1.size+1) 154 (.slice (some ⟨w.1.size,0,none⟩) n n)/\RowB (W.setCell ⟨w.1.size,y,none⟩ (.int .u8 (f:Nat))).drew w.1.size n (fun i=>.int .u8 (byL (t++cz (o++[⟨x,hx⟩])) i:Nat)))/\Below w.1.size w (W.setCell ⟨w.1.size,y,none⟩ (.int .u8 (f:Nat))).drew)/\gI (w.1.size+2) q (W.setCell ⟨w.1.size,y,none⟩ (.int .u8 (f:Nat))).drew):=by
     obtain⟨r,d,C,F,z,T⟩:=HI.out;have hk:=(KeepsOthers.setCell W ⟨w.1.size,y,none⟩ (.int .u8 (f:Nat))).from b.1.size;have R:∀j,w.1.size<j->(W.setCell ⟨w.1.size,y,none⟩ (.int .u8 (f:Nat))).heap[j]? = W.heap[j]? := fun j hj=>Below.heap_setCell _ _ _ j (fun e=>by have e':j=w.1.size:=e;omega)
     refine⟨⟨hk.size,hk.same⟩,⟨R _ (by omega),R _ (by omega),R _ (by omega)⟩,⟨⟨(R _ (by omega)).trans r, ?_⟩,(C.setCell (p:=⟨w.1.size,y,none⟩) (qK _) _).drew⟩, ?_⟩
     ·refine RowB.congr (d.set y _) fun i hi=>?_
      rw[HV.out,<-qh];by_cases e:i=y
      ·subst e;rw[qV rfl,z]
      ·rw[qZ e,LK _ _ _ (by rw[T];exact e)]
     ·exact F.setCell (by omega) _ _
    simp only
    gi_wp2
    gi_region_with (refine⟨trivial, ?_⟩;gi_at_call 267;refine(CallsIn.inRound lo (callsIn_wide.2 (HK.out _))).mono ?_;rintro e w3⟨rfl,rfl⟩)
    all_goals exact au
   case done =>
    rintro D ys W u Q⟨⟨⟨r,d⟩,C⟩,F⟩ N;have HF:=qQ (qU r (qU d (qU C (qU (F.cons (by omega) N (fun S=>by have:=ad D S;omega)) Q))));clear r d C F N Q ag I af ak
    gi_wp2
    obtain⟨r,d,C,F,Q⟩:=HF.out;refine⟨⟨k+1,D::q,_,_,_,_,_,_,_,_,_,_,_,_,_,_,_,_,_,_,_,_,_,_,_,_,_,_,_,_,_,_,_,_,_,_,_,_,_,_,_,_,_,_,⟨ac, ?_,⟨r,d.congr fun i hi=>?_,C,F⟩⟩,rfl⟩, ?_⟩
    ·go_num
    ·rw[Q,HT.out,LG,ao.out]
    ·simp[intOf];omega
   case stop =>
    rintro D cc o W _ _ h _;exact h.elim
  ·obtain rfl:k=l.length:=(by omega);have aw:=a.box.cell;obtain⟨L,O⟩:∃L,lx (fK l p (m:Nat)) n=L:=⟨_,rfl⟩
   have I:RowB wr w.1.size n (l7 L):=a.row.congr fun i hi=>by
    rw[<-O,List.take_length];unfold l7;rw[LY _ hi]
   have ab:=Kz I (by rw[<-O,VQ]) n;have u:=qQ a.defs;have hB:=qQ a.below;have HL:=qQ O;clear O I a
   gi_wp2
   refine Kl (B:=w.1.size+2) q wr u.out (fun w' hw=>?_);refine⟨.string ⟨L.toArray⟩, ?_,by rw[HL.out];rfl,hB.out.trans (hw.mono (by omega))⟩;simp[results,Tryz.f230,go_sem]
theorem Tn(v:Value)(l:List Nat)(p b:Int)(w:World)(d:dO gL w v l)(i:Xz l)(f:l.length<=1000)(j:(Lit.int .i64 p).wf=true)(g:(Lit.int .i64 b).wf=true):
  Calls prog 230 #[v,p,b] w (X3 (.string (bs (dL l p b))) w):=by
 cases a:lz b with
 | false=>exact Tl v l p b w d g a
 | true =>
   have k:1<=b/\b<=1000000/\b%8=0:=(by unfold lz at a;exact of_decide_eq_true a);rw[VX a];obtain⟨m,rfl⟩:∃m:Nat,b=m:=⟨b.toNat,by omega⟩
   rw[qa];exact Tm v l p m (m/8) w d i f j (by omega) (by omega) (by omega)
end
section
open Go.RowKit Go.Shelf
attribute [local go_sem] Oper.semAt_some
abbrev dg(s:Tw) := { k:Nat // ud s k=true }
def Q4(s:Tw)(x:dg s):Array Value:=#[.int .i64 (x.1:Int),.int .i64 (vy s (x.1:Nat):Nat)]
def nM(s:Tw)(a:Nat)(b:List (dg s)):Nat:=(b.getLast?.map fun x=>vy s (x.1:Nat)).getD a
theorem Gn(s:Tw)(a:Nat)(b:List (dg s))(x:dg s):nM s a (b++[x])=vy s (x.1:Nat):=by simp[nM]
def bf{s:Tw}(a:List (dg s)):List Int:=a.map fun x=>(x.1:Int)
theorem Gp{s:Tw}(a:List (dg s))(x:dg s):bf (a++[x])=bf a++[(x.1:Int)]:=by simp[bf]
theorem Tp{s:Tw}(a:List (dg s)):(bf a).length=a.length:=by simp[bf]
def ou(B:Nat)(W a:World):Prop:=a.heap[B]? = W.heap[B]?
theorem Tr{B:Nat}{X Y Z:World}(h:ou B X Y)(k:ou B Y Z):ou B X Z:=Eq.trans k h
theorem Ts{B:Nat}{w:World}(b:B<w.1.size)(W:World)(l:Nat)(o a:Obj)(d:w.1.size<=l)(h:W.heap[l]? = some o)(_ : o.isCells=false)(_ : o.isWalk=false):ou B W (W.putObj l a) :=
 (grownBy_putObj' W l a).block B (by have:=(qn.1 h).1;omega) (fun e=>by cases e;omega)
theorem J8{W a:World}{B:Nat}{t:TypeId}{v:Value}(h:Boxed W B t v)(b:Below W.1.size W a):Boxed a B t v:=(b.block B h.lt).trans h
theorem Gs{W a:World}(h:Below W.1.size W a):W.grownBy a none:=⟨h.os,h.tape,h.output,h.size,fun k b _=>h.block k b⟩
theorem Tt(n:Nat)(hn:1<=n)(l t I b:Nat)(s:Tw)(hs:s.size<=1100000)(ae:b<=s.size)(J O:List (dg s)->World->Prop)(W:World)(Q:AbidesFrom W.1.size J)
  (S:∀a x F,J a F->a.length<s.size+1->YieldAt Fence.wide (n-1) prog l (Q4 s x) F fun e o =>
   (e=.returned (.bool true)/\J (a++[x]) o/\ou t F o)∨(e=.returned (.bool false)/\O (a++[x]) o))
  (aa:Boxed W t 9 (.string s)) (aj:W.cell? ⟨I,0,none⟩=some (.int .i64 b)) (h0:J [] W):
  CallsIn Fence.wide n prog 249 #[.func (.yield l) #[] #[],.pointer (some ⟨I,0,none⟩),.pointer (some ⟨t,0,none⟩)] W fun e o=>(∃v,e=.returned v) /\
   ((∃ys,(bf ys=whL s (s.size+1) b/\nM s b ys=whE s (s.size+1) b)/\J ys o)∨(∃a,True/\O a o)):=by
 have Y:=qQ (show bf ([]:List (dg s))++whL s (s.size+1) b=whL s (s.size+1) b from rfl);obtain⟨L,i⟩:∃L,whL s (s.size+1) b=L:=⟨_,rfl⟩
 obtain⟨E,g⟩:∃E,whE s (s.size+1) b=E:=⟨_,rfl⟩
 have Z:=qQ i;have X:=qQ g;rw[i,g];clear Y i g;refine callsIn_of_wp func249 rfl trivial ?_ rfl;simp only[ntmps249,List.size_toArray,List.length_cons,List.length_nil,Nat.reduceAdd,Nat.reduceSub,Array.replicate_succ,Array.replicate_zero,List.push_toArray,List.append_toArray,List.nil_append,List.cons_append]
 gi_wp2
 gi_loopw [4] (fun f wr=>∃(k:Nat) (a:List (dg s)),k<=s.size/\a.length<=k/\f=.int .i64 k/\bf a++whL s (s.size+1) k=L/\whE s (s.size+1) k=E/\nM s b a=k/\J a wr/\Boxed wr t 9 (.string s))
  (fun f _=>s.size-(intOf f).toNat)
 case atStart=>exact⟨b,[],ae,qI _,rfl,Z.out,X.out,rfl,h0,aa⟩
 case round =>
  obtain⟨k,a,hk,ak,rfl,i,g,G,R,T⟩:=hrel;have m:=qQ fun W=>JE s (k:Nat) W (by unfold maxLen;omega) (WalkArith.wf_i64 (by omega))
  have hc:=T.cell;cases j:ud s k with
  | false =>
    obtain⟨p,q⟩:=YK j;rw[p,List.append_nil]at i;rw[q]at g;have z:=lf s k;rw[j]at z;obtain⟨U,V⟩:=YQ z;unfold ln at m;rw[z,U,V]at m;have B:=qQ i;have A:=qQ (G.trans g);clear j p q z U V i g G
    gi_wp2
    refine⟨trivial, ?_⟩;refine(callsIn_wide.2 (m.out _)).mono ?_;rintro e d⟨rfl,y⟩;have u:=Q a wr d none R (Gs y) (fun r e=>by cases e)
    gi_wp2
    refine⟨fun _ h=>(by cases h), ?_⟩
    gi_wp2
    refine bodyPost_ret (results_none rfl _ _ _) rfl ?_;exact⟨⟨_,rfl⟩,.inl ⟨a,⟨B.out,A.out⟩,u⟩⟩
  | true =>
    obtain⟨p,q⟩:=YJ hk j;have ag:=tR j;rw[p]at i;rw[q]at g;have H:=lf s k;rw[j]at H;unfold ln at m;rw[H]at m;have u:∀d,Below wr.1.size wr d->J a d:=fun d hb=>Q a wr d none R (Gs hb) (fun r e=>by cases e)
    have C:=qQ fun d (h:J a d)=>S a ⟨k,j⟩ d h (by omega)
    have K:=qQ (Gp a ⟨k,j⟩);have M:=qQ (Gn s b a ⟨k,j⟩);unfold Q4 at C;simp only at C K M;have B:=qQ i;have A:=qQ g;generalize bT s (k:Nat)=P at*;generalize vy s (k:Nat)=N at*;obtain⟨n1,n2⟩:=ag;clear p q H i g G S
    gi_wp2
    refine⟨trivial, ?_⟩;refine(callsIn_wide.2 (m.out _)).mono ?_;rintro e d⟨rfl,y⟩;obtain⟨fn,al,ah,ai,hy,hR⟩:=C.out d (u d y);have ad:=J8 T y;clear u
    gi_wp2
    refine hR.mono ?_;rintro e W3 (⟨rfl,ab,af⟩|⟨rfl,ac⟩)
    ·gi_wp2
     go_roundw
     case rel =>
      refine⟨N,a++[⟨k,j⟩],n2,by rw[qL];simp;omega,rfl, ?_,A.out,M.out,ab,Eq.trans af ad⟩;rw[K.out,qh];exact B.out
     case measure=>simp[intOf];omega
    ·gi_wp2
     refine bodyPost_ret (results_none rfl _ _ _) rfl ?_;exact⟨⟨_,rfl⟩,.inr ⟨_,trivial,ac⟩⟩
theorem Ta(n:Nat)(q:1<=n)(b d a:Nat)(s:Tw)(r:s.size<=1100000)(p:a<=s.size)(w:World)
  (k:Boxed w b 9 (.string s)) (j:Boxed w d 3 (.int .i64 a)):
  SeqStopsK Fence.wide n prog 249 #[.pointer (some ⟨d,0,none⟩),.pointer (some ⟨b,0,none⟩)] (Q4 s) (ou b)
   (fun ys=>bf ys=whL s (s.size+1) a/\nM s a ys=whE s (s.size+1) a) (fun _=>True) (s.size+1) w:=fun l J g W f m _ o i =>
 Tt n q l b d a s r p J g W m o (J8 k f) (J8 j f).cell i
theorem Te(n:Nat)(s:Tw)(a:Int)(w:World):
  CallsIn Fence.wide n prog 209 #[s,a] w fun e w'=>e=.returned (.func (.func 249) #[] #[.pointer (some ⟨w.1.size+1,0,none⟩),.pointer (some ⟨w.1.size,0,none⟩)])/\w'=(w.alloc (.cells #[s] 9)).alloc (.cells #[a] 3):=by
 refine callsIn_of_wp func209 rfl trivial ?_ rfl;simp only[ntmps209,List.size_toArray,List.length_cons,List.length_nil,Nat.reduceAdd,Nat.reduceSub,Array.replicate_succ,Array.replicate_zero,List.push_toArray,List.append_toArray,List.nil_append,List.cons_append]
 gi_wp2
 go_ret;exact⟨rfl,rfl⟩
end
section
open Go.RowKit Go.Shelf
attribute [local go_sem] Oper.semAt_some
theorem Ti(s:Tw)(a:Int)(w:World)(i:s.size<=1100000)(d:(Lit.int .i64 a).wf=true)(h:¬(0<=a/\a<=s.size)):
  Calls prog 154 #[s,a] w (oI s a w):=by
 have f:wlL s a=[]:=by unfold wlL;rw[qZ h]
 have g:wlE s a=0:=by unfold wlE;rw[qZ h]
 unfold oI;rw[f,g];have b:=qQ fun W=>QN s a W (by unfold maxLen;omega) d
 rw[qA h]at b;clear h d;go_enter func154,ntmps154;go_wp2_with fail;refine(b.out _).mono ?_;rintro e j⟨rfl,rfl⟩;go_wp2;exact bodyPost_ret (v:=.tuple #[.slice none 0 0,.int .i64 0]) (by simp[results,Tryz.results154,go_sem]) rfl ⟨_,rfl,qX ⟨rfl,_,_,rfl⟩,((qG _ w).alloc (qK _) _).alloc (by simp) _⟩
theorem Gt{w:World}{B base n size:Nat}{e:TypeId}{v:Value}{xs:List Value}(h:w.ownsRow base e size v n xs)(d:B<=base):w.ownsRow B e size v n xs:=by
 refine⟨h.1, ?_⟩;rcases h.2 with b|⟨g,cap,a,i,f,r⟩
 ·exact qX b
 ·exact qY ⟨g,cap,a,i,qR d f,r⟩
theorem Ga{w:World}{base n size:Nat}{e:TypeId}{v:Value}{xs:List Value}(h:w.ownsRow base e size v n xs):∃A c,v=.slice A n c:=by
 rcases h.2 with⟨a,b⟩|⟨g,cap,d,a,_⟩
 ·exact⟨none,0,by rw[a,b]⟩
 ·exact⟨_,cap,a⟩
theorem og{w:World}{base n size B:Nat}{e:TypeId}{v:Value}{xs:List Value}(h:w.ownsRow base e size v n xs)(b:B<base):v.ownBlock≠some B:=fun a=>by
 have:=ON h B a;omega
theorem To(s:Tw)(a:Nat)(w:World)(J:s.size<=1100000)(ag:a<=s.size):
  Calls prog 154 #[s,a] w (oI s (a:Nat) w):=by
 obtain⟨i0,hi,ak,al,am⟩:=info_parts sn;have R:wlL s (a:Nat)=whL s (s.size+1) a:=by unfold wlL;rw[qV (by omega),qa]
 have S:wlE s (a:Nat)=whE s (s.size+1) a:=by unfold wlE;rw[qV (by omega),qa]
 unfold oI;rw[R,S];clear R S;have N:=qQ fun W=>QN s (a:Nat) W (by unfold maxLen;omega) (WalkArith.wf_i64 (by omega))
 rw[qB (by omega)]at N;refine(callsIn_wide (n:=8)).1 ?_;refine callsIn_of_wp_marks func154 rfl trivial ?_ rfl;simp only[ntmps154,List.size_toArray,List.length_cons,List.length_nil,Nat.reduceAdd,Nat.reduceSub,Array.replicate_succ,Array.replicate_zero,List.push_toArray,List.append_toArray,List.nil_append,List.cons_append]
 gi_wp2
 refine⟨trivial, ?_⟩;refine(callsIn_wide.2 (N.out _)).mono ?_;rintro e w'⟨rfl,rfl⟩
 gi_wp2
 refine⟨trivial, ?_⟩;refine(Te _ _ _ _).mono ?_;rintro e w'⟨rfl,rfl⟩
 gi_wp2
 obtain⟨f,j⟩:∃f,((((w.alloc (.cells #[.slice none 0 0] 37)).alloc (.cells #[a] 3)).alloc (.cells #[s] 9)).alloc (.cells #[a] 3))=f:=⟨_,rfl⟩
 have av:f.1.size=w.1.size+4:=by rw[<-j];simp
 have ad:Below w.1.size w f:=by rw[<-j];exact((((qG _ w).alloc (qK _) _).alloc (by simp) _).alloc (by simp;omega) _).alloc (by simp;omega) _
 have b0:Boxed f w.1.size 37 (.slice none 0 0):=by rw[<-j];exact(((Boxed.new w 37 (.slice none 0 0)).alloc _).alloc _).alloc _
 have b1:Boxed f (w.1.size+1) 3 (.int .i64 (a:Nat)):=by
  have h:=Boxed.new (w.alloc (.cells #[.slice none 0 0] 37)) 3 (.int .i64 (a:Nat));rw[World.size_alloc]at h;rw[<-j];exact(h.alloc _).alloc _
 have P:Boxed f (w.1.size+2) 9 (.string s):=by
  have h:=Boxed.new ((w.alloc (.cells #[.slice none 0 0] 37)).alloc (.cells #[a] 3)) 9 (.string s);rw[World.size_alloc,World.size_alloc]at h;rw[<-j];exact h.alloc _
 have b3:Boxed f (w.1.size+3) 3 (.int .i64 (a:Nat)):=by
  have h:=Boxed.new (((w.alloc (.cells #[.slice none 0 0] 37)).alloc (.cells #[a] 3)).alloc (.cells #[s] 9)) 3 (.int .i64 (a:Nat));rw[World.size_alloc,World.size_alloc,World.size_alloc]at h;rw[<-j];exact h
 rw[j];clear j
 refine wpIn_rangeFunc_ownG rfl (by omega) (gf:=249) (lb:=#[.pointer (some ⟨w.1.size+3,0,none⟩),.pointer (some ⟨w.1.size+2,0,none⟩)]) rfl trivial (enters_of func249 (by kernel_rfl) rfl)
  (Ta _ (by omega) (w.1.size+2) (w.1.size+3) a s J ag f P b3) Tr (Ts (by omega)) (qG _ _) (fun _=>rfl)
  (fun b W=>(((∃v,Boxed W w.1.size 37 v/\W.ownsRow (w.1.size+4) 3 1 v (bf b).length ((bf b).map tj)/\True)/\Boxed W (w.1.size+1) 3 (.int .i64 (nM s a b:Nat)))/\Boxed W (w.1.size+2) 9 (.string s))/\Below w.1.size f W)
  (fun _ _ _=>False)
  (OwnFrom.and (OwnFrom.and (OwnFrom.and (Own.from (holdsRow_own (w.1.size+4) w.1.size 37 3 1 (fun b=>(bf b).length) (fun b=>(bf b).map tj) (fun _ _=>True)) _) (Own.from (boxed_own (w.1.size+1) 3 (fun b=>.int .i64 (nM s a b:Nat))) _)) (Own.from (boxed_own (w.1.size+2) 9 (fun _=>.string s)) _)) (ownFrom_below (by omega) (by omega)))
  (fun _ _ _ _ _ J _ _=>J)
  ⟨⟨⟨⟨_,b0,World.ownsRow_nil _ _ _ _,trivial⟩,b1⟩,P⟩,qG _ _⟩
  (fun x=>{ tmps:=#[.string s,.int .i64 (a:Nat),undef,undef,.pointer (some ⟨w.1.size,0,none⟩),.pointer (some ⟨w.1.size+1,0,none⟩),.int .i64 (x.1:Int),.int .i64 (vy s (x.1:Nat):Nat),.string s,.int .i64 (a:Nat),.bool true,.bool false,.int .i64 (a:Nat),.string s,.int .i64 (a:Nat),.func (.func 249) #[] #[.pointer (some ⟨w.1.size+1+1+1,0,none⟩),.pointer (some ⟨w.1.size+1+1,0,none⟩)],.int .i64 (x.1:Int),.int .i64 (vy s (x.1:Nat):Nat),undef,undef,undef,undef,undef,undef,undef],defers:=[] })
  ?assign ?body ?done ?stop
 case assign =>
  rintro l x W K k;unfold Q4
  gi_wp2
  exact k
 case body =>
  rintro l b x W⟨⟨⟨⟨v,m,d,_⟩,g⟩,z⟩,i⟩ Y;have U:=m.cell;have V:=g.cell;have X:=g.frozen;have hS:=qQ (Gp b x);have o:=qQ (Gn s a b x);have hW:w.1.size+4<=W.1.size:=by have:=i.size;omega
  have hl:(bf b).length<s.size+1:=by rw[Tp];exact Y
  generalize bf b=q at*;clear Y
  gi_wp2_with (gi_at_builtin;refine wpListIn_append_own _ rfl _ _ 37 rfl (w.1.size+4) 3 i0 (.int .i64 0) 1 8 Tryz.underlying37 hi ak al am rfl (by decide) _ _ _ rfl (d.alloc _) ⟨W.1.size,0,none⟩ 1 1 [.int .i64 (x.1:Int)] rfl rfl (cell_one_new _ _ _) (by intro u hu;simp at hu;subst hu;rfl) (by unfold maxLen;omega) (by omega) (by simp;omega) ?_;intro v' C y F _;obtain⟨M,Q,rfl⟩:=Ga y;obtain⟨aa,aj,_,ah,af⟩:=m.appended (by decide) (Gt d (by omega)) (by omega) (qK _) (Gt y (by omega)) F;have ap:=aa.cell;have aq:=aa.frozen;have H:=(g.alloc _).kept F (og d (by omega)).symm;have ai:=(z.alloc _).kept F (og d (by omega)).symm;have ar:=H.cell;have au:=H.frozen)
  have Z:=(ai.other (B':=w.1.size) (by omega) (.slice M (q.length+1) Q)).other (B':=w.1.size+1) (by omega) (.int .i64 (vy s (x.1:Nat):Nat));have B:=y.kept (grownBy_setCell' C w.1.size (.slice M (q.length+1) Q)) (.inr (og y (by omega)));have I:=B.kept (grownBy_setCell' _ (w.1.size+1) (.int .i64 (vy s (x.1:Nat):Nat))) (.inr (og y (by omega)));refine⟨(ah.trans (KeepsOthers.setCell _ _ _)).from _,Eq.trans Z (Eq.symm z),⟨⟨⟨_,aj.other (by omega) _, ?_,trivial⟩, ?_⟩,Z⟩,i.trans (af.setCell (p:=⟨w.1.size+1,0,none⟩) (by simp) _)⟩
  ·rw[hS.out,qL,List.map_append];exact I
  ·rw[o.out];exact(H.other (B':=w.1.size) (by omega) _).set _
 case done =>
  rintro D ys W hD⟨ac,ab⟩⟨⟨⟨⟨v,m,d,_⟩,g⟩,z⟩,i⟩ k;obtain⟨q,G⟩:∃q,whL s (s.size+1) a=q:=⟨_,rfl⟩
  obtain⟨E,o⟩:∃E,whE s (s.size+1) a=E:=⟨_,rfl⟩
  rw[ac,G]at d;rw[ab,o]at g;have HE:=qQ o;have HL:=qQ G;obtain⟨A,c,rfl⟩:=Ga d;have U:=m.cell;have hf:=m.frozen;have V:=g.cell;have X:=g.frozen;have O:=qQ (qU d (qU i k));clear d i k ac ab G o
  gi_wp2
  gi_region
  gi_wp2
  obtain⟨d,i,k⟩:=O.out;have w0:=(m.set (.slice A q.length c)).other (B':=w.1.size+1) (by omega) (.int .i64 (E:Nat));have C:=(g.other (B':=w.1.size) (by omega) (.slice A q.length c)).set (.int .i64 (E:Nat));have B:=(d.kept (grownBy_setCell' W w.1.size (.slice A q.length c)) (.inr (og d (by omega)))).kept (grownBy_setCell' _ (w.1.size+1) (.int .i64 (E:Nat))) (.inr (og d (by omega)));have T:=(KeepsOthers.setCell (W.setCell ⟨w.1.size,0,none⟩ (.slice A q.length c)) ⟨w.1.size+1,0,none⟩ (.int .i64 (E:Nat))).same D _ ((KeepsOthers.setCell W ⟨w.1.size,0,none⟩ (.slice A q.length c)).same D _ k rfl) rfl;have ae:=((((ad.trans i).setCell (p:=⟨w.1.size,0,none⟩) (qK _) (.slice A q.length c)).setCell (p:=⟨w.1.size+1,0,none⟩) (by simp) (.int .i64 (E:Nat)))).drew;have an:Boxed (((W.setCell ⟨w.1.size,0,none⟩ (.slice A q.length c)).setCell ⟨w.1.size+1,0,none⟩ (.int .i64 (E:Nat))).drew) w.1.size 37 (.slice A q.length c):=w0;have ao:Boxed (((W.setCell ⟨w.1.size,0,none⟩ (.slice A q.length c)).setCell ⟨w.1.size+1,0,none⟩ (.int .i64 (E:Nat))).drew) (w.1.size+1) 3 (.int .i64 (E:Nat)):=C;have t:(((W.setCell ⟨w.1.size,0,none⟩ (.slice A q.length c)).setCell ⟨w.1.size+1,0,none⟩ (.int .i64 (E:Nat))).drew).heap[D]? = some (.deferred (some [])):=T;have I:(((W.setCell ⟨w.1.size,0,none⟩ (.slice A q.length c)).setCell ⟨w.1.size+1,0,none⟩ (.int .i64 (E:Nat))).drew).ownsRow (w.1.size+4) 3 1 (.slice A q.length c) q.length (q.map tj):=B;clear w0 C B T k i d O m g z U hf V X;generalize ((W.setCell ⟨w.1.size,0,none⟩ (.slice A q.length c)).setCell ⟨w.1.size+1,0,none⟩ (.int .i64 (E:Nat))).drew=W2 at*;refine⟨by simp,.inl ⟨_,_,rfl,run_takeDeferred t, ?_⟩⟩;have c0:=cell_kept an.cell (grownBy_putObj' _ D (.deferred none)) (fun r e=>by cases e;exact⟨_,t,rfl⟩);have c1:=cell_kept ao.cell (grownBy_putObj' _ D (.deferred none)) (fun r e=>by cases e;exact⟨_,t,rfl⟩);rw[HL.out,HE.out];refine⟨.tuple #[.slice A q.length c,.int .i64 (E:Nat)], ?_,_,rfl,kN.xy (ownsRow_putObj I _ t rfl),ae.trans (belowK_b (w:=w) (qK _) W2 D _ _ (by omega) t rfl rfl)⟩;simp[results,Tryz.f154,go_sem,c0,c1]
 case stop =>
  rintro D c b W _ _ h _;exact h.elim
theorem qQQ(s:Tw)(a:Int)(w:World)(b:s.size<=1100000)(d:(Lit.int .i64 a).wf=true):
  Calls prog 154 #[s,a] w (oI s a w):=by
 by_cases h:0<=a/\a<=s.size
 ·obtain⟨k,rfl⟩:∃k:Nat,a=k:=⟨a.toNat,by omega⟩
  exact To s k w b (by omega)
 ·exact Ti s a w b d h
end
section
open Go.RowKit
theorem J9(n:Int)(w:World)(q:(Lit.int .i64 n).wf=true):
  Calls prog 152 #[n] w (X3 (.string (hdS n)) w):=by
 by_cases h:0<=n/\n<=199
 ·obtain⟨k,rfl⟩:∃k:Nat,n=k:=⟨n.toNat,by omega⟩
  rw[Y4 (by omega)];have d:=qQ fun W=>gw k 4 W (by omega) (by omega) (by omega)
  have f:=qQ fun W=>oA (hdT k) W (by rw[Y5];decide)
  have l:∀w:World,(Op.stringOp .add ⟨#[99,104,110,107]⟩ (bs (be 4 k))).run prog w=.ok (.string (hdT k)) w:=fun w=>run_string_add_sum (P:=prog) (w:=w) _ _ (by rw[kP,je];decide)
  have b:decide ((k:Int)<0)=false:=qA (by omega);have j:decide ((200:Int)<=(k:Int))=false:=qA (by omega);have m:(k:Int)<200:=by omega
  have hw:IntKind.u64.wrap (k:Int)=(k:Int):=by rw[IntKind.wrap_u64];omega
  generalize vv (hdT k)=S at*;generalize hdT k=T at*;generalize bs (be 4 k)=B at*;clear h;go_enter func152,ntmps152;go_wp2_with fail;refine(d.out _).mono ?_;rintro e o⟨rfl,g⟩;go_wp2_with fail;refine(f.out _).mono ?_;rintro e p⟨rfl,i⟩;go_wp2;go_ret;exact⟨rfl,bj g i⟩
 ·rw[ZC h];by_cases a:n<0
  ·have b:decide (n<0)=true:=qB a;clear h;go_enter func152,ntmps152;go_wp2;go_ret;exact⟨rfl,qG _ _⟩
  ·have b:decide (n<0)=false:=qA a;have j:decide ((200:Int)<=n)=true:=qB (by omega);clear h;go_enter func152,ntmps152;go_wp2;go_ret;exact⟨rfl,qG _ _⟩
theorem qQX(s:Tw)(n:Int)(w:World)(d:(Lit.int .i64 n).wf=true)(h:¬(0<=n/\n<=199)):
  Calls prog 92 #[s,n] w (rI w):=by
 have a:=qQ fun W=>J9 n W d
 rw[ZC h]at a;unfold rI;clear h;go_enter func92,ntmps92;go_wp2_with fail;refine(a.out _).mono ?_;rintro e f⟨rfl,b⟩;go_wp2;go_ret3;exact⟨_,rfl,qX ⟨rfl,_,_,rfl⟩,b⟩
theorem qQZ(s H:Tw)(n:Int)(w:World)(g:H.size=12)
  (d:Hid (∀W:World,Calls prog 152 #[n] W (X3 (.string H) W)))
  (a:Hid (∀W:World,Calls prog 153 #[s,H] W (X0 (.bool false) W)))
  (b:Hid (∀W:World,Calls prog 153 #[H,s] W (X0 (.bool false) W))):
  Calls prog 92 #[s,n] w (rI w):=by
 unfold rI;obtain⟨j,k⟩:=ZD g;go_enter func92,ntmps92;go_wp2_with fail;refine(d.out _).mono ?_;rintro e l⟨rfl,f⟩;go_wp2_with fail;refine(a.out _).mono ?_;rintro e i⟨rfl,rfl⟩;go_wp2_with fail;refine(b.out _).mono ?_;rintro e i⟨rfl,rfl⟩;go_wp2;go_ret3;exact⟨_,rfl,qX ⟨rfl,_,_,rfl⟩,f⟩
theorem qQJ(s H:Tw)(n:Int)(w:World)(g:H.size=12)
  (d:Hid (∀W:World,Calls prog 152 #[n] W (X3 (.string H) W)))
  (a:Hid (∀W:World,Calls prog 153 #[s,H] W (X0 (.bool false) W)))
  (b:Hid (∀W:World,Calls prog 153 #[H,s] W (X0 (.bool true) W))):
  Calls prog 92 #[s,n] w (ZE w):=by
 unfold ZE;obtain⟨j,k⟩:=ZD g;go_enter func92,ntmps92;go_wp2_with fail;refine(d.out _).mono ?_;rintro e l⟨rfl,f⟩;go_wp2_with fail;refine(a.out _).mono ?_;rintro e i⟨rfl,rfl⟩;go_wp2_with fail;refine(b.out _).mono ?_;rintro e i⟨rfl,rfl⟩;go_wp2;go_ret3;exact⟨_,rfl,qX ⟨rfl,_,_,rfl⟩,f⟩
theorem qQK(s H:Tw)(n:Int)(w:World)(j:H.size=12)(L:List Int)(E:Nat)
  (d:Hid (∀W:World,Calls prog 152 #[n] W (X3 (.string H) W)))
  (b:Hid (∀W:World,Calls prog 153 #[s,H] W (X0 (.bool true) W)))
  (f:Hid (∀W:World,Calls prog 154 #[s,.int .i64 12] W fun e w'=>∃u,e=.returned (.tuple #[u,E])/\kN w' u L/\Below W.1.size W w')):
  Calls prog 92 #[s,n] w fun e w'=>∃u,e=.returned (.tuple #[u,E,.bool true])/\kN w' u L/\Below w.1.size w w':=by
 obtain⟨l,m⟩:=ZD j;go_enter func92,ntmps92;go_wp2_with fail;refine(d.out _).mono ?_;rintro e o⟨rfl,g⟩;go_wp2_with fail;refine(b.out _).mono ?_;rintro e k⟨rfl,rfl⟩;go_wp2_with fail;refine(f.out _).mono ?_;rintro e k⟨u,rfl,a,i⟩;obtain⟨A,c,rfl⟩:=a.jX;go_wp2;go_ret3;exact⟨_,rfl,a,bj g i⟩
theorem qQV(s:Tw)(n:Int)(w:World)(I:s.size<=1100000)(F:(Lit.int .i64 n).wf=true):
  Calls prog 92 #[s,n] w (nZ s n w):=by
 have B:scK s n=0->∀e w',rI w e w'->nZ s n w e w':=by
  intro b e w'⟨u,p,r,a⟩;obtain⟨f,g,o⟩:=OR b;exact⟨u,by rw[p,g,o];rfl,by rw[f];exact r,a⟩
 have G:scK s n=1->∀e w',ZE w e w'->nZ s n w e w':=by
  intro b e w'⟨u,p,r,a⟩;obtain⟨f,g,o⟩:=OS b;exact⟨u,by rw[p,g,o];rfl,by rw[f];exact r,a⟩
 by_cases h:0<=n/\n<=199
 ·obtain⟨k,rfl⟩:∃k:Nat,n=k:=⟨n.toNat,by omega⟩
  have d:=lX (n:=k) (by omega);have m:=qQ fun W=>J9 (k:Nat) W F
  have C:s.size<=maxLen:=by unfold maxLen;omega
  have A:(hdS (k:Nat)).size<=maxLen:=by rw[d];decide
  have j:=fun W=>XB s (hdS (k:Nat)) W C A
  have l:=fun W=>XB (hdS (k:Nat)) s W A C
  have t:(hdS (k:Nat)).extract 0 12=hdS (k:Nat):=by rw[<-d];exact ByteArray.extract_zero_size
  by_cases i:12<=s.size/\s.extract 0 12=hdS (k:Nat)
  ·have f:cE s (hdS (k:Nat))=true:=(by unfold cE;rw[d];exact qB i);rw[f]at j;have b:scK s (k:Nat)=2:=Y7 h (by rw[Nat.min_eq_right i.1,i.2,t]) (by omega);obtain⟨J,K,M⟩:=Y6 b;have v:=qQ fun W=>qQQ s 12 W I (by decide)
   unfold oI at v;unfold nZ;rw[J,K,M];exact qQK s _ _ w d _ _ m (qQ j) v
  ·have f:cE s (hdS (k:Nat))=false:=(by unfold cE;rw[d];exact qA i);rw[f]at j;by_cases a:s.size<=12/\(hdS (k:Nat)).extract 0 s.size=s
   ·have g:cE (hdS (k:Nat)) s=true:=(by unfold cE;rw[d];exact qB a);rw[g]at l
    have H:s.size<12:=by
     rcases qd s.size 12 with c|c
     ·exact c
     ·have y:s.size=12:=(by omega);refine absurd ⟨c, ?_⟩ i;have z:=a.2;rw[y,t]at z;rw[<-y,ByteArray.extract_zero_size];exact z.symm
    have b:scK s (k:Nat)=1:=O1 h (by rw[Nat.min_eq_left (by omega),a.2,ByteArray.extract_zero_size]) H;exact(qQJ s _ _ w d m (qQ j) (qQ l)).mono (G b)
   ·have g:cE (hdS (k:Nat)) s=false:=(by unfold cE;rw[d];exact qA a);rw[g]at l
    have b:scK s (k:Nat)=0:=O0 h (fun q=>by
     rcases qd s.size 12 with c|c
     ·rw[Nat.min_eq_left (by omega),ByteArray.extract_zero_size]at q;exact a ⟨by omega,q.symm⟩
     ·rw[Nat.min_eq_right c,t]at q;exact i ⟨c,q⟩)
    exact(qQZ s _ _ w d m (qQ j) (qQ l)).mono (B b)
 ·exact(qQX s n w F h).mono (B (OT h))
theorem qQY(size:Int)(p:Tw)(w:World)(f:p.size<=maxLen)(g:(Lit.int .i64 size).wf=true):
  Calls prog 198 #[size,p] w (X0 (.bool (ftS size p)) w):=by
 have i:=bounds_i64 g;unfold maxLen at f;unfold ftS;by_cases a:p.size<=2000
 ·by_cases b:0<=size
  ·by_cases d:size<=4084-(p.size:Int)
   ·rw[qB ⟨a,b,by omega,by omega⟩];go_enter func198,ntmps198;go_wp2;go_ret;exact⟨rfl,rfl⟩
   ·rw[qA (fun q=>d (by omega))];go_enter func198,ntmps198;go_wp2;go_ret;exact⟨rfl,rfl⟩
  ·rw[qA (fun q=>b q.2.1)];go_enter func198,ntmps198;go_wp2;go_ret;exact⟨rfl,rfl⟩
 ·rw[qA (fun q=>a q.1)];go_enter func198,ntmps198;go_wp2;go_ret;exact⟨rfl,rfl⟩
theorem qYp: v8 where
 head:=J9
 scan:=qQV
 fits:=qQY
 put:=SN
end
section
open Go.RowKit Go.Shelf
theorem Ge(s:Tw):∀(n k:Nat) (x:Int),x∈whL s n k->0<=x/\x<=s.size
 | 0,k,x,h=>by cases h
 | n+1,k,x,h=>by
   unfold whL at h;split at h
   ·rename_i a;rcases qM.1 h with rfl|h
    ·have:=tR a;omega
    ·exact Ge s n _ x h
   ·cases h
theorem qQU{s:Tw}{n x:Int}(h:x∈scL s n):0<=x/\x<=s.size:=by
 unfold scL wlL at h;split at h
 ·split at h
  ·exact Ge s _ _ x h
  ·cases h
 ·cases h
theorem qQG{k n:Nat}{D:jL}{pos:Int}(h:(rdC D (nmC n)).2.1≠0):bK (k+1) n D pos=⟨ByteArray.empty,0,0,(rdC D (nmC n)).2.1,(rdC D (nmC n)).2.2⟩:=by
 unfold bK;rw[qV h]
theorem qQW{k n:Nat}{D:jL}{pos:Int}(h:(rdC D (nmC n)).2.1=0)(b:∀x∈scL (rdC D (nmC n)).1 (n:Nat),¬pos<=(n:Int)*4096+x):bK (k+1) n D pos=bK k (n+1) (rdC D (nmC n)).2.2 pos:=by
 rw[bK,qZ (by simp[h]),List.find?_eq_none.2 (fun x a=>by simpa using b x a)]
theorem qQA{k n j:Nat}{D:jL}{pos x:Int}(h:(rdC D (nmC n)).2.1=0)(a:(scL (rdC D (nmC n)).1 (n:Nat))[j]? = some x)(g:pos<=(n:Int)*4096+x)(i:∀y∈(scL (rdC D (nmC n)).1 (n:Nat)).take j,¬pos<=(n:Int)*4096+y):
  bK (k+1) n D pos=⟨bT (rdC D (nmC n)).1 x,(n:Int)*4096+x,(n:Int)*4096+(vy (rdC D (nmC n)).1 x:Nat),0,(rdC D (nmC n)).2.2⟩:=by
 have f:(scL (rdC D (nmC n)).1 (n:Nat)).find? (fun x=>decide (pos<=(n:Int)*4096+x))=some x:=by
  generalize scL (rdC D (nmC n)).1 (n:Nat)=l at*;have b:=(qO.1 a).1
  have e:l=l.take j++(x::l.drop (j+1)):=by
   have d:l.drop j=x::l.drop (j+1):=by
    rw[xZ b];congr 1;rw[qE b]at a;simpa using a
   rw[<-d,qp]
  rw[e,List.find?_append,List.find?_eq_none.2 (fun y m=>by simpa using i y m)];simp[g]
 rw[bK,qZ (by simp[h]),f]
theorem Q5{b:Func}{t u v x:Tmp}(h:b.results=#[.tmp t,.tmp u,.tmp v,.tmp x])(a:Array Value)(P:Program)(w:World):
  (results b a).run P w=.ok (.tuple #[a.getD t undef,a.getD u undef,a.getD v undef,a.getD x undef]) w:=by
 simp[results,h]
section
variable {At:j6}(api:j8 At)(nap:kZ)(cap:v8){c:Ctx}{gl gd:Nat}{L L':jq}{D D':jL}{w w':World}
include api nap cap
abbrev Gi(At:j6)(c:Ctx)(gl gd:Nat)(L:jq)(r:oL):Ending->World->Prop:=vI At c gl gd (.tuple #[r.p,r.at_,r.next,err r.e]) L r.D
theorem qQB(hm:c.m=ptr gl)(h:TSt At c gl gd L D w)(ok:WfP D)(F:D.count<=1000000000)(pos:Int)(hw:(Lit.int .i64 pos).wf=true)(hc:L.chunks<=200)(he:vu D L=0):Calls prog 43 #[ptr gl,pos] w (Gi At c gl gd L (bK (L.chunks-(max pos 0/4096).toNat) (max pos 0/4096).toNat D pos)):=by
 have hr:=qQ (nJ api hm h);rw[he]at hr;have bb:=bounds_i64 hw;obtain⟨g,ar⟩:∃g,g=(max pos 0/4096).toNat:=⟨_,rfl⟩
 rw[<-ar];have aK:∀ts t w,(Builtin.max_ ts t #[pos,.int .i64 0]).run prog w=.ok (.int .i64 (max pos 0)) w:=fun ts t w=>by rw[run_max_int2,show(if pos<0 then(0:Int) else pos)=max pos 0 by split<;>omega]
 have e1:(max pos 0).tdiv 4096=(g:Int):=by rw[Int.tdiv_eq_ediv_of_nonneg (by omega)];omega
 have aL:IntKind.i64.wrap (g:Int)=(g:Int):=qz _ (by omega);have au:g<=9223372036854775807/4096:=by omega
 generalize max pos 0=mx at*;have OK:=qQ ok;have ay:=qQ F;have HC:=qQ hc;have aJ:=qQ au;have BB:=qQ bb;clear hm h ok F hw hc he ar bb au;go_enter func43,ntmps43;go_wp2;go_step3;go_wp2_with fail;refine hr.out.mono ?_;rintro e w1⟨rfl,h1⟩;have H1:=qQ h1;clear h1;go_wp2;go_step3;go_wp2;go_loopw [8] (fun i wr=>∃(k:Nat) (d:jL),i=.int .i64 k/\TSt At c gl gd L d wr/\WfP d/\d.count<=1000000000+k/\bK (L.chunks-k) k d pos=bK (L.chunks-g) g D pos/\(k=g∨k<=L.chunks)) (fun i _=>L.chunks-(intOf i).toNat)
 case atStart=>exact⟨g,D,rfl,H1.out,OK.out,by have:=ay.out;omega,rfl,qX rfl⟩
 case round =>
  obtain⟨k,d,rfl,r,aw,F,hk,aa⟩:=hrel;have c3:=r.cells.2.2.2.1;have HT:=qQ r;have H:=qQ hk;have S:=qQ aw;have ac:=qQ F;clear r hk aw F;by_cases M:k<L.chunks
  ·have ao:=HC.out;have l1:decide ((k:Int)<(L.chunks:Int))=true:=qB (by omega);have X:=qQ (Yk api nap HT.out S.out (by have:=ac.out;omega) k (by omega));have G:=Yx (n:=nmC k) S.out;have HW:=qQ (ZH S.out (nmC k));have ad:=qQ (Yj d (nmC k));have J:L.chunks-k=(L.chunks-(k+1))+1:=(by omega);by_cases p:(rdC d (nmC k)).2.1=0
   case neg =>
    have Q:=qQ (qQG (k:=L.chunks-(k+1)) (pos:=pos) p);rw[<-J]at Q;have o:=qQ (Q.out.symm.trans H.out);have t1:(((rdC d (nmC k)).2.1:Int) != 0)=true:=(by simp;omega);generalize rdC d (nmC k)=R at*;obtain⟨s,y,N⟩:=R;dsimp only at*;generalize hn:(L.chunks:Int)=n at*;clear ao G J p M aa Q HW ad;go_wp2_with fail;refine X.out.mono ?_;rintro e w2⟨rfl,C⟩;have O:=qQ C;clear C;go_wp2;refine bodyPost_ret (Q5 rfl _ _ _) rfl ?_;rw[<-o.out];exact⟨rfl,O.out⟩
   have ak:=qQ fun(W:World)=>cap.scan (rdC d (nmC k)).1 (k:Nat) W (by omega) (dS (by omega))
   have aB:=qQ fun x (l:x∈scL (rdC d (nmC k)).1 (k:Nat))=>qQU l
   have ah:=qQ (qQW (k:=L.chunks-(k+1)) (pos:=pos) p);have ai:=qQ (fun j x=>qQA (k:=L.chunks-(k+1)) (j:=j) (pos:=pos) (x:=x) p);rw[<-J]at ah ai;rw[p]at X;have aj:=qQ fun(W:World) (x:Int) (l:0<=x/\x<=((rdC d (nmC k)).1.size:Nat))=>JE (rdC d (nmC k)).1 x W (by unfold maxLen;omega) (WalkArith.wf_i64 (by omega))
   unfold ln at aj;unfold nZ at ak;have hFr:=qQ fun(W:World)=>tc k W (by omega)
   have af:=qQ (show(k:Int)<=200 by omega);have aC:=qQ (show((rdC d (nmC k)).1.size:Int)<=1048576 by omega);have ag:=qQ M;generalize rdC d (nmC k)=R at*;obtain⟨s,y,N⟩:=R;dsimp only at*;generalize scL s (k:Nat)=a at*;generalize scE s (k:Nat)=en at*;generalize bx s (k:Nat)=aQ at*;generalize hn:(L.chunks:Int)=n at*;have HN:=qQ hn;clear ao G J p M aa;go_wp2_with fail;refine X.out.mono ?_;rintro e w2⟨rfl,C⟩;have O:=qQ C;clear C;go_wp2_with fail;refine(ak.out _).mono ?_;rintro e w3⟨u,rfl,hi,v⟩;have H3:=qQ (O.out.below api v);obtain⟨A,off,cp,rfl,aq,an⟩:=hi.cell;have ax:=qQ an;have az:=qQ aq;clear v hi an aq;go_wp2;go_loopw [14] (fun i aI=>∃j m:Nat,j<=a.length/\i=.int .i64 j/\(∀y∈a.take j,¬pos<=(k:Int)*4096+y)/\aI=w3.drewN m) (fun i _=>a.length-(intOf i).toNat)
   case atStart=>exact⟨0,0,qI _,rfl,fun y f=>by simp at f,rfl⟩
   case round =>
    obtain⟨j,m,Z,rfl,al,rfl⟩:=hrel;have P:=qQ al;have r:=H3.out.drewN api m;have T:=qQ r;clear al r;by_cases z:j<a.length
    ·have l:a[j]? = some a[j]:=qE z;have ab:=aB.out _ (List.getElem_mem z);obtain⟨b,rfl,am⟩:=ax.out j _ l;generalize a[j]=x at*;have HX:=qQ l;have aG:=qQ ab;obtain⟨I,K⟩:∃I,I=w3.drewN m:=⟨_,rfl⟩
     have d3:I.cell? ⟨b,off+j,none⟩=some (.int .i64 x):=(by rw[K];exact am);rw[<-K]at T ⊢;have aF:=qQ K;clear am K;have G:=aC.out;have ap:=af.out;have t5:((j:Int)==(a.length:Int))=false:=(by simp;omega);have l5:(j:Int)<(a.length:Int):=(by omega);have aN:IntKind.i64.wrap ((k:Int)*4096+x)=(k:Int)*4096+x:=qz _ (by omega);by_cases B:pos<=(k:Int)*4096+x
     ·have t6:decide (pos<=(k:Int)*4096+x)=true:=qB B;have o:=qQ ((ai.out j x HX.out B (fun y f=>by have:=P.out y f;omega)).symm.trans H.out);have aH:=YX s x;have aP:IntKind.i64.wrap ((k:Int)*4096+(vy s x:Nat))=(k:Int)*4096+(vy s x:Nat):=qz _ (by omega);have hG:=qQ fun W=>aj.out W x aG.out
      generalize vy s x=gn at*;generalize bT s x=gp at*;generalize bZ s x=gk at*;clear B l ab Z G ap aH z;generalize hq:a.length=q at*;go_wp2_with fail;go_quiet ((go_at_call 93;exact Calls.quiet_of_same ((hFr.out _).mono fun _ _ h=>⟨h.1,h.2.symm⟩)));generalize Y:I.drewN _=U at*;have V:U.cell? ⟨b,off+j,none⟩=some (.int .i64 x):=(by rw[<-Y];exact d3);have aD:=qQ (show TSt At c gl gd L N U by rw[<-Y];exact T.out.drewN api _);clear Y d3;go_wp2_with fail;refine(hG.out _).mono ?_;rintro e w5⟨rfl,v⟩;have d5:w5.cell? ⟨b,off+j,none⟩=some (.int .i64 x):=((jP.xA v).cell (World.block_lt_of_cell? U _ V) (by simp)).trans V;have aE:=qQ (aD.out.below api v);clear v V;go_wp2_with fail;go_quiet ((go_at_call 93;exact Calls.quiet_of_same ((hFr.out _).mono fun _ _ h=>⟨h.1,h.2.symm⟩)));go_wp2;refine bodyPost_ret (Q5 rfl _ _ _) rfl ?_;rw[<-o.out];exact⟨rfl,aE.out.drewN api _⟩
     ·have t6:decide (pos<=(k:Int)*4096+x)=false:=qA B;have aO:IntKind.i64.wrap ((j:Int)+1)=(j:Int)+1:=qz _ (by have:=az.out;unfold maxLen at this;omega)
      have av:∀y∈a.take (j+1),¬pos<=(k:Int)*4096+y:=by
       intro y f;rw[xQ,l]at f;rcases qD.1 f with f|f
       ·exact P.out y f
       ·obtain rfl:y=x:=(by simpa using f);exact B
      have aA:=qQ av;have ae:=qQ z;clear av B l ab Z G ap z;generalize hq:a.length=q at*;go_wp2_with fail;go_quiet ((go_at_call 93;exact Calls.quiet_of_same ((hFr.out _).mono fun _ _ h=>⟨h.1,h.2.symm⟩)));go_wp2;exact⟨⟨j+1,_,by have:=ae.out;omega,by go_num,fun y f=>by have:=aA.out y f;omega,by rw[aF.out,World.drewN_drewN]⟩,by simp[intOf];have:=ae.out;omega⟩
    ·obtain rfl:j=a.length:=(by omega);have e:a.take a.length=a:=qm (qK _);have o:=qQ ((ah.out (fun y f=>by have:=P.out y (by rw[e];exact f);omega)).symm.trans H.out);have t5:((a.length:Int)==(a.length:Int))=true:=(by simp);have aM:IntKind.i64.wrap ((k:Int)+1)=(k:Int)+1:=qz _ (by have:=af.out;omega);clear e Z z;generalize a.length=q at*;go_wp2;exact⟨⟨k+1,N,by go_num,T.out,HW.out,by have:=ac.out;have:=ad.out;omega,o.out,qY (by have:=ag.out;omega)⟩,by simp[intOf];have:=ag.out;omega⟩
  ·have l1:decide ((k:Int)<(L.chunks:Int))=false:=qA (by omega);have e0:L.chunks-k=0:=(by omega);have o:=qQ (show(⟨ByteArray.empty,0,0,4,d⟩:oL)=bK (L.chunks-g) g D pos from by rw[<-H.out,e0];rfl);clear M aa e0;generalize (L.chunks:Int)=n at*;go_wp2;refine bodyPost_ret (Q5 rfl _ _ _) rfl ?_;rw[<-o.out];exact⟨rfl,HT.out⟩
theorem qQC(b:c.m=ptr gl)(h:TSt At c gl gd L D w)(ok:WfP D)(g:D.count<=1000000000)(pos:Int)(hw:(Lit.int .i64 pos).wf=true)(f:L.chunks<=200):Calls prog 43 #[ptr gl,pos] w (Gi At c gl gd L (tb D L pos)):=by
 unfold tb;by_cases a:vu D L=0
 ·rw[qZ (by simp[a])];exact qQB api nap cap b h ok g pos hw f a
 ·rw[qV a];have j:=qQ (nJ api b h);have t:((vu D L:Int) != 0)=true:=by simp;omega
  generalize vu D L=y at*;clear h ok g hw f a b;go_enter func43,ntmps43;go_wp2;go_step3;go_wp2_with fail;refine j.out.mono ?_;rintro e k⟨rfl,d⟩;have i:=qQ d;clear d;go_wp2;refine bodyPost_ret (Q5 rfl _ _ _) rfl ?_;exact⟨rfl,i.out⟩
end
section
variable {At:j6}(api:j8 At){c:Ctx}{gl gd:Nat}{L L':jq}{D D':jL}{w w':World}{B1 B2 B3:Nat}{nm s:Tw}
include api
theorem qQD(h:TSt At c gl gd L D w)(ok:WfP D):Calls prog 77 #[ptr gl] w (vI At c gl gd (err (yE D).1) L (yE D).2):=by
 have f:=qQ (h.xE api (fun F hF=>api.delete jo hF ok.ok rf));have c1:=h.cells.2.1;have i:(⟨#[110,101,119]⟩:Tw)=jo:=rfl;unfold yE;by_cases b:(jh D jo).1=4
 ·rw[qV b];rw[b]at f;generalize jh D jo=r at*;clear h ok b;go_enter func77,ntmps77;go_wp2_with fail;refine f.out.mono ?_;rintro e g⟨rfl,a⟩;have d:=qQ a;clear a;go_wp2;go_ret;exact⟨rfl,d.out⟩
 ·rw[qZ b];have t:(((jh D jo).1:Int) != 4)=true:=by simp;omega
  generalize jh D jo=r at*;clear h ok b;go_enter func77,ntmps77;go_wp2_with fail;refine f.out.mono ?_;rintro e g⟨rfl,a⟩;have d:=qQ a;clear a;go_wp2;go_ret;exact⟨rfl,d.out⟩
variable (nap:kZ)
include nap
theorem qQE(h:TSt At c gl gd L D w)(ok:WfP D)(n e:Nat)(y:n<=200)(z:s.size<=1048576)(v:e<=1048576)(o:e<=s.size∨s.size<12):Calls prog 127 #[ptr gl,n,s,e] w (vI At c gl gd (err (lZ D L n s e).1) (lZ D L n s e).2.2 (lZ D L n s e).2.1):=by
 have t:=qQ fun W=>nK nap n W (by omega)
 have i:=mX (n:=n) (by omega);have q:=qQ h;unfold lZ;by_cases m:s.size<12
 ·rw[qV m];have K:decide ((s.size:Int)<12)=true:=qB (by omega);have J:=qQ fun(W:World) (l:TSt At c gl gd { L with chunks:=n } D W)=>l.xE api (fun F hF=>api.delete (nmC n) hF ok.ok i)
  generalize nmC n=nm at*;generalize jh D nm=r at*;clear h ok y z v o m i;go_enter func127,ntmps127;go_wp2_with fail;refine(t.out _).mono ?_;rintro e C⟨rfl,f⟩;have b:=q.out.below api f;have P:=b.cells.2.2.2.1;have Q:=b.frozen 3;have a:=b.zB api n;have A:=a.cells.2.1;have j:=qQ a;clear f b a;go_wp2_with fail;refine(J.out _ j.out).mono ?_;rintro e G⟨rfl,d⟩;have k:=qQ d;clear d;go_wp2;go_ret;exact⟨rfl,k.out⟩
 rw[qZ m];have o:e<=s.size:=by omega
 have K:decide ((s.size:Int)<12)=false:=qA (by omega);have hFr:=qQ fun(W:World)=>tc n W (by omega)
 have R:IntKind.i64.wrap ((n:Int)*4096+(e:Int))=(n:Int)*4096+(e:Int):=qz _ (by omega);have B:=qQ (show((4096*n+e:Nat):Int)=(n:Int)*4096+(e:Int) by omega);by_cases p:e<s.size
 ·rw[qV p];have M:decide ((e:Int)<(s.size:Int))=true:=qB (by omega);have N:decide (e<s.size)=true:=qB (by omega);have S:(0:Int)<=(e:Int):=by omega
  have T:(e:Int)<=(s.size:Int):=by omega
  have u:=qQ fun(W:World) (l:TSt At c gl gd { L with endp:=4096*n+e } D W)=>SB api l ok i (s:=s.extract 0 e) (by rw[qk];omega)
  dsimp only[onD];generalize mQ D (nmC n) (s.extract 0 e)=r at*;generalize nmC n=nm at*;clear h ok y z v o m i p;go_enter func127,ntmps127;go_wp2_with fail;refine(t.out _).mono ?_;rintro e C⟨rfl,f⟩;have b:=q.out.below api f;have g:=qQ b;clear f b;go_wp2_with fail;refine(hFr.out _).mono ?_;rintro e O⟨rfl,rfl⟩;have H:=g.out.cells.2.2.2.2.1;have I:=g.out.frozen 4;have a:=g.out.zQ api (4096*n+e);rw[B.out]at a;have A:=a.cells.2.1;have j:=qQ a;clear a;go_wp2_with fail;refine(u.out _ j.out).mono ?_;rintro e G⟨rfl,d⟩;have k:=qQ d;clear d;go_wp2;go_ret;exact⟨rfl,k.out⟩
 ·rw[qZ p];have M:decide ((e:Int)<(s.size:Int))=false:=qA (by omega);have N:decide (e<s.size)=false:=qA (by omega);have u:=qQ fun(W:World) (l:TSt At c gl gd { L with endp:=4096*n+e } D W)=>l.xE api (fun F hF=>api.sync (nmC n) hF ok.ok i)
  dsimp only[onD];generalize kJ D (nmC n)=r at*;generalize nmC n=nm at*;clear h ok y z v o m i p;go_enter func127,ntmps127;go_wp2_with fail;refine(t.out _).mono ?_;rintro e C⟨rfl,f⟩;have b:=q.out.below api f;have g:=qQ b;clear f b;go_wp2_with fail;refine(hFr.out _).mono ?_;rintro e O⟨rfl,rfl⟩;have H:=g.out.cells.2.2.2.2.1;have I:=g.out.frozen 4;have a:=g.out.zQ api (4096*n+e);rw[B.out]at a;have A:=a.cells.2.1;have j:=qQ a;clear a;go_wp2_with fail;refine(u.out _ j.out).mono ?_;rintro e G⟨rfl,d⟩;have k:=qQ d;clear d;go_wp2;go_ret;exact⟨rfl,k.out⟩
end
section
variable {At:j6}{c:Ctx}{gl gd:Nat}{L L':jq}{D D':jL}{w w':World}
theorem TSt.strs(api:j8 At)(h:TSt At c gl gd L D w){f:FuncId}{args:Array Value}{l:List Tw}(C:∀F,At w c.base gd F D->Calls prog f args w (VH At c.base gd F w l D')):
  Calls prog f args w (fun e w'=>∃v,e=.returned v/\uP w' v l/\(∀b,v.ownBlock=some b->b≠gl)/\TSt At c gl gd L D' w'):=by
 obtain⟨F,y,g,n,o,p,z,A⟩:=h;refine(C F y).mono ?_;rintro e w'⟨r,v,t,B,G,u,d,a⟩;refine⟨v,t,B,fun b i e=>(by have:=(G b i).1;have:=g.lt;omega),r,u,g.xC a n,fun j=>?_,fun x m=>?_,p.trans a (fun x m=>?_),qR z a.size,fun b i=>?_⟩
 ·rcases d gl j with k|k
  ·exact n k
  ·have:=g.lt;omega
 ·rcases d x m with k|k
  ·exact o x k
  ·exact qY (by have:=p.size;omega)
 ·rcases o x m with k|k
  ·exact qX (qF _ k)
  ·exact qY k
 ·obtain⟨H,I,q,J,K⟩:=A b i;refine⟨H,I,fun j=>?_,J,(a.block b (by omega) q).trans K⟩;rcases d b j with k|k
  ·exact q k
  ·omega
theorem Gw{l:List Tw}{s:Tw}{c:Nat}(h:isC s=false):ym (s::l) c=ym l c:=by
 unfold ym;rw[qZ (by simp[h])];split<;>rfl
theorem qQF{l:List Tw}{s:Tw}{c:Nat}(h:isC s=true)(a:npN s≠c∨200<=npN s):ym (s::l) c=(63,c):=by
 unfold ym;rw[qV h,qV a]
theorem qQH{l:List Tw}{s:Tw}{c:Nat}(h:isC s=true)(a:¬(npN s≠c∨200<=npN s)):ym (s::l) c=ym l (c+1):=by
 unfold ym;rw[qV h,qZ a];split<;>rfl
end
theorem qQI{w:World}{v:Value}{l:List Tw}(h:uP w v l):∃A off cap,v=.slice A l.length cap/\l.length<=maxLen/\∀i x,l[i]? = some x->∃b,A=some ⟨b,off,none⟩/\w.cell? ⟨b,off+i,none⟩=some (.string x):=by
 rcases h with⟨rfl,a,c,rfl⟩|⟨b,off,cap,d,j,k,m,f⟩
 ·exact⟨a,0,c,rfl,qI _,fun i x h=>by simp at h⟩
 ·exact⟨some ⟨b,off,none⟩,off,cap,d,by omega,fun i x g=>⟨b,rfl,f i x g⟩⟩
theorem qQL(s:Tw):npN s<=999999:=by
 cases h:vm s
 ·rw[(rK h).2];omega
 ·exact(Vf h).1
theorem qQM(s:Tw):npK s<256:=by
 cases h:vm s
 ·rw[(rK h).1];omega
 ·rcases(Vf h).2 with h|h|h<;>omega
section
variable {At:j6}(api:j8 At)(nap:kZ){c:Ctx}{gl gd:Nat}{L L':jq}{D D':jL}{w w':World}
include api nap
theorem qQN(h:TSt At c gl gd L D w)(ok:WfP D)(V:L.chunks=0)(ae:∀f∈D.l,f.name.size<=maxLen):Calls prog 78 #[ptr gl] w (vI At c gl gd (err (uf D L).1) (uf D L).2.2 (uf D L).2.1):=by
 have hS:=qQ (h.strs api (fun F hF=>api.names hF ok.ok));have c1:=h.cells.2.1;have ac:(D.l.map jO.name).length<=400:=by rw[qq];exact ok.many
 have af:∀x∈D.l.map jO.name,x.size<=maxLen:=by
  intro x j;obtain⟨f,hf,rfl⟩:=qP.1 j;exact ae f hf
 unfold uf;generalize D.l.map jO.name=d at*;have HL:=qQ ac;have HZ:=qQ af;have H0:=qQ V;clear h ok V ae ac af;go_enter func78,ntmps78;go_wp2_with fail;refine hS.out.mono ?_;rintro e w1⟨v,rfl,hs,hv,X⟩;obtain⟨A,off,cp,rfl,ag,Z⟩:=qQI hs;have HC:=qQ Z;have HV:=qQ hv;have H1:=qQ X;clear hs ag Z hv X;go_wp2;go_loopw [14] (fun i wr=>∃k g:Nat,k<=d.length/\i=.int .i64 k/\g<=k/\ym (d.drop k) g=ym d L.chunks/\TSt At c gl gd { L with chunks:=g } D wr/\jP [gl] w1 wr) (fun i _=>d.length-(intOf i).toNat)
 case atStart=>exact⟨0,L.chunks,qI _,rfl,by rw[H0.out];exact qK _,rfl,H1.out,jP.refl _ _⟩
 case round =>
  obtain⟨k,g,hk,rfl,aa,ab,Y,ht⟩:=hrel;have y:=qQ Y;have P:=qQ ht;have m:=qQ ab;have O:=qQ aa;clear Y ht ab aa;by_cases t:k<d.length
  ·have j:d[k]? = some d[k]:=qE t;have G:d.drop k=d[k]::d.drop (k+1):=xZ t;obtain⟨b,rfl,z⟩:=HC.out k _ j;have H:=HZ.out _ (List.getElem_mem t);generalize d[k]=x at*;have a:b≠gl:=HV.out b rfl;have ah:=(P.out.cell (World.block_lt_of_cell? w1 _ z) (by simpa using a)).trans z;have u:=qQ fun(W:World)=>nap.parse x W H
   have l1:(k:Int)<(d.length:Int):=(by omega);have K:=HL.out;have N:=qQL x;have M:=qQM x;have c3:=y.out.cells.2.2.2.1;have ai:IntKind.i64.wrap ((g:Int)+1)=(g:Int)+1:=qz _ (by have:=O.out;omega);have aj:IntKind.i64.wrap ((k:Int)+1)=(k:Int)+1:=qz _ (by omega);rw[G]at m;have C:=qQ t;cases r:vm x
   case false =>
    have o:isC x=false:=(by unfold isC;rw[r];rfl);rw[Gw o]at m;rw[r]at u;generalize npK x=kk at*;generalize npN x=S at*;generalize R:d.length=q at*;clear j G z H a K N M r o t;go_wp2_with fail;refine(u.out _).mono ?_;rintro e T⟨rfl,a⟩;have n:=qQ (y.out.below api a);have I:=qQ (P.out.trans (jP.xA a) (fun x j=>by cases j));clear a;go_wp2;exact⟨⟨k+1,g,by have:=C.out;omega,by go_num,by have:=O.out;omega,m.out,n.out,I.out⟩,by simp[intOf];have:=C.out;omega⟩
   rw[r]at u;by_cases B:npK x=99
   case neg =>
    have o:isC x=false:=(by unfold isC;rw[r];simp[B]);rw[Gw o]at m;have t1:((npK x:Int) != 99)=true:=(by simp;omega);generalize npK x=kk at*;generalize npN x=S at*;generalize R:d.length=q at*;clear j G z H a K N M r o t B;go_wp2_with fail;refine(u.out _).mono ?_;rintro e T⟨rfl,a⟩;have n:=qQ (y.out.below api a);have I:=qQ (P.out.trans (jP.xA a) (fun x j=>by cases j));clear a;go_wp2;exact⟨⟨k+1,g,by have:=C.out;omega,by go_num,by have:=O.out;omega,m.out,n.out,I.out⟩,by simp[intOf];have:=C.out;omega⟩
   have o:isC x=true:=(by unfold isC;rw[r,B];rfl);rw[B]at u;by_cases J:npN x≠g∨200<=npN x
   ·rw[qQF o J]at m;by_cases ad:npN x=g
    ·have t2:((npN x:Int) != (g:Int))=false:=(by simp;omega);have t3:decide ((200:Int)<=(npN x:Int))=true:=qB (by omega);generalize npN x=S at*;generalize R:d.length=q at*;clear j G z H a K N M r o t B J ad;go_wp2_with fail;refine(u.out _).mono ?_;rintro e T⟨rfl,a⟩;have n:=qQ (y.out.below api a);have U:=n.out.cells.2.2.2.1;clear a;go_wp2;go_ret;rw[<-m.out];exact⟨rfl,n.out⟩
    ·have t2:((npN x:Int) != (g:Int))=true:=(by simp;omega);generalize npN x=S at*;generalize R:d.length=q at*;clear j G z H a K N M r o t B J ad;go_wp2_with fail;refine(u.out _).mono ?_;rintro e T⟨rfl,a⟩;have n:=qQ (y.out.below api a);have U:=n.out.cells.2.2.2.1;clear a;go_wp2;go_ret;rw[<-m.out];exact⟨rfl,n.out⟩
   ·rw[qQH o J]at m;have t2:((npN x:Int) != (g:Int))=false:=(by simp;omega);have t3:decide ((200:Int)<=(npN x:Int))=false:=qA (by omega);generalize npN x=S at*;generalize R:d.length=q at*;clear j G z H a K N M r o t B J;go_wp2_with fail;refine(u.out _).mono ?_;rintro e T⟨rfl,a⟩;have Q:=y.out.below api a;have U:=Q.cells.2.2.2.1;have f3:=Q.frozen 3;have n:=qQ (Q.zB api (g+1));have I:=qQ ((P.out.trans (jP.xA a) (fun x j=>by cases j)).setCell (p:=⟨gl,3,none⟩) (qX (qH.2 rfl)) (.int .i64 ((g+1:Nat):Int)));clear a Q;go_wp2;exact⟨⟨k+1,g+1,by have:=C.out;omega,by go_num,by have:=O.out;omega,m.out,n.out,I.out⟩,by simp[intOf];have:=C.out;omega⟩
  ·obtain rfl:k=d.length:=(by omega);rw[List.drop_length]at m;have l1:decide ((d.length:Int)<(d.length:Int))=false:=qA (by omega);generalize d.length=q at*;go_wp2;go_ret;rw[<-m.out];exact⟨rfl,y.out⟩
end
theorem BQ(s:Tw):∀(n k:Nat),k<=s.size->whE s n k<=s.size
 | 0,k,h=>h
 | n+1,k,h=>by
   unfold whE;split
   ·exact BQ s n _ (YX _ _)
   ·exact h
theorem qQO(s:Tw)(n:Int):scE s n<=s.size:=by
 unfold scE wlE;split
 ·split
  ·rename_i h;exact BQ s _ _ (by omega)
  ·exact qI _
 ·exact qI _
theorem qQP{k n:Nat}{D:jL}{L:jq}(h:(rdC D (nmC n)).2.1≠0):uT (k+1) n D L=((rdC D (nmC n)).2.1,(rdC D (nmC n)).2.2,L):=by unfold uT;rw[qV h]
theorem qQR{k n:Nat}{D:jL}{L:jq}(h:(rdC D (nmC n)).2.1=0)(a:bx (rdC D (nmC n)).1 (n:Nat)=false):uT (k+1) n D L=(63,(rdC D (nmC n)).2.2,L):=by
 unfold uT;rw[qZ (by simp[h]),qV a]
theorem qQS{n:Nat}{D:jL}{L:jq}(h:(rdC D (nmC n)).2.1=0)(a:bx (rdC D (nmC n)).1 (n:Nat)=true):uT (0+1) n D L=lZ (rdC D (nmC n)).2.2 L n (rdC D (nmC n)).1 (scE (rdC D (nmC n)).1 (n:Nat)):=by
 unfold uT;rw[qZ (by simp[h]),qZ (by simp[a]),qV rfl]
theorem BZ{k n:Nat}{D:jL}{L:jq}(d:k≠0)(h:(rdC D (nmC n)).2.1=0)(a:bx (rdC D (nmC n)).1 (n:Nat)=true)(b:(rdC D (nmC n)).1.size<12∨scE (rdC D (nmC n)).1 (n:Nat)<(rdC D (nmC n)).1.size):uT (k+1) n D L=(63,(rdC D (nmC n)).2.2,L):=by
 unfold uT;rw[qZ (by simp[h]),qZ (by simp[a]),qZ d,qV b]
theorem qQT{k n:Nat}{D:jL}{L:jq}(d:k≠0)(h:(rdC D (nmC n)).2.1=0)(a:bx (rdC D (nmC n)).1 (n:Nat)=true)(b:¬((rdC D (nmC n)).1.size<12∨scE (rdC D (nmC n)).1 (n:Nat)<(rdC D (nmC n)).1.size)):uT (k+1) n D L=uT k (n+1) (rdC D (nmC n)).2.2 { L with endp:=4096*n+scE (rdC D (nmC n)).1 (n:Nat) }:=by
 rw[uT,qZ (by simp[h]),qZ (by simp[a]),qZ d,qZ b]
section
variable {At:j6}(api:j8 At)(nap:kZ)(cap:v8){c:Ctx}{gl gd:Nat}{L L':jq}{D D':jL}{w w':World}
include api nap cap
theorem qQ0(h:TSt At c gl gd L D w)(ok:WfP D)(T:D.count<=1000000000)(hc:L.chunks<=200):Calls prog 79 #[ptr gl] w (vI At c gl gd (err (fC D L).1) (fC D L).2.2 (fC D L).2.1):=by
 have H0:=qQ h;have c3:=h.cells.2.2.2.1;unfold fC;have OK:=qQ ok;have ah:=qQ T;have HC:=qQ hc;obtain⟨n,hn⟩:∃n:Int,(L.chunks:Int)=n:=⟨_,rfl⟩
 rw[hn]at c3;have M:=qQ hn;clear h ok T hc hn;go_enter func79,ntmps79;go_wp2;go_loopw [13] (fun i wr=>∃(k:Nat) (a:jL) (g:jq),i=.int .i64 k/\TSt At c gl gd g a wr/\WfP a/\a.count<=1000000000+k/\g.chunks=L.chunks/\uT (L.chunks-k) k a g=uT L.chunks 0 D L/\k<=L.chunks) (fun i _=>L.chunks-(intOf i).toNat)
 case atStart=>exact⟨0,D,L,rfl,H0.out,OK.out,by have:=ah.out;omega,rfl,rfl,qI _⟩
 case round =>
  obtain⟨k,a,g,rfl,hT,ag,T,ad,hk,ac⟩:=hrel;have HT:=qQ hT;have B:=qQ hk;have ab:=qQ ag;have ae:=qQ T;have ai:=qQ ad;have P:=qQ (show(g.chunks:Int)=n by rw[ad];exact M.out);have aj:=qQ ac;clear hT hk ag T ad;by_cases F:k<L.chunks
  ·have N:=HC.out;have l1:decide ((k:Int)<n)=true:=qB (by have:=M.out;omega);have am:IntKind.i64.wrap ((k:Int)+1)=(k:Int)+1:=qz _ (by omega);have al:IntKind.i64.wrap (n-1)=n-1:=qz _ (by have:=M.out;omega);have H:=qQ (Yk api nap HT.out ab.out (by have:=ae.out;omega) k (by omega));have I:=Yx (n:=nmC k) ab.out;have G:=qQ (ZH ab.out (nmC k));have K:=qQ (Yj a (nmC k));have p:L.chunks-k=(L.chunks-(k+1))+1:=(by omega);have af:=qQ F;clear ac;by_cases o:(rdC a (nmC k)).2.1=0
   case neg =>
    have d:=qQ (qQP (k:=L.chunks-(k+1)) (L:=g) o);rw[<-p]at d;have m:=qQ (d.out.symm.trans B.out);have t1:(((rdC a (nmC k)).2.1:Int) != 0)=true:=(by simp;omega);generalize rdC a (nmC k)=R at*;obtain⟨s,y,J⟩:=R;dsimp only at*;clear F N I p o d G K;go_wp2_with fail;refine H.out.mono ?_;rintro e U⟨rfl,f⟩;have t:=qQ f;clear f;go_wp2;go_ret;rw[<-m.out];exact⟨rfl,t.out⟩
   have C:=qQ fun(W:World)=>cap.scan (rdC a (nmC k)).1 (k:Nat) W (by omega) (dS (by omega))
   unfold nZ at C;have O:=qQO (rdC a (nmC k)).1 (k:Nat);rw[o]at H;cases r:bx (rdC a (nmC k)).1 (k:Nat)
   case false =>
    have d:=qQ (qQR (k:=L.chunks-(k+1)) (L:=g) o r);rw[<-p]at d;have m:=qQ (d.out.symm.trans B.out);rw[r]at C;generalize rdC a (nmC k)=R at*;obtain⟨s,y,J⟩:=R;dsimp only at*;generalize scE s (k:Nat)=Q at*;generalize scL s (k:Nat)=pl at*;clear F N I p o d G K r O;go_wp2_with fail;refine H.out.mono ?_;rintro e U⟨rfl,f⟩;have t:=qQ f;clear f;go_wp2_with fail;refine(C.out _).mono ?_;rintro e w3⟨u,rfl,l,j⟩;obtain⟨A,off,V,rfl,-,-⟩:=l.cell;have b:=qQ (t.out.below api j);have v:=b.out.cells.2.2.2.1;rw[P.out]at v;have Y:=b.out.frozen 4;have X:=b.out.cells.2.2.2.2.1;clear j l;go_wp2;go_ret;rw[<-m.out];exact⟨rfl,b.out⟩
   rw[r]at C;by_cases aa:k+1=L.chunks
   ·have z:L.chunks-(k+1)=0:=(by omega);have d:=qQ (qQS (L:=g) o r);rw[p,z]at B;have m:=qQ (d.out.symm.trans B.out);have t2:((k:Int)==n-1)=true:=(by simp;have:=M.out;omega);have hM:=qQ fun(W:World) (hT:TSt At c gl gd g (rdC a (nmC k)).2.2 W)=>qQE api nap hT G.out k (scE (rdC a (nmC k)).1 (k:Nat)) (s:=(rdC a (nmC k)).1) (by omega) I (by omega) (qX O)
    generalize lZ (rdC a (nmC k)).2.2 g k (rdC a (nmC k)).1 (scE (rdC a (nmC k)).1 (k:Nat))=mm at*;generalize rdC a (nmC k)=R at*;obtain⟨s,y,J⟩:=R;dsimp only at*;generalize scE s (k:Nat)=Q at*;generalize scL s (k:Nat)=pl at*;clear F N I p o d G K r O aa z;go_wp2_with fail;refine H.out.mono ?_;rintro e U⟨rfl,f⟩;have t:=qQ f;clear f;go_wp2_with fail;refine(C.out _).mono ?_;rintro e w3⟨u,rfl,l,j⟩;obtain⟨A,off,V,rfl,-,-⟩:=l.cell;have b:=qQ (t.out.below api j);have v:=b.out.cells.2.2.2.1;rw[P.out]at v;have Y:=b.out.frozen 4;have X:=b.out.cells.2.2.2.2.1;clear j l;go_wp2_with fail;refine(hM.out _ b.out).mono ?_;rintro e w4⟨rfl,h4⟩;have H4:=qQ h4;clear h4;go_wp2;go_ret;rw[<-m.out];exact⟨rfl,H4.out⟩
   have z:L.chunks-(k+1)≠0:=(by omega);have t2:((k:Int)==n-1)=false:=(by simp;have:=M.out;omega);by_cases Z:(rdC a (nmC k)).1.size<12
   ·have d:=qQ (BZ (L:=g) z o r (qX Z));rw[<-p]at d;have m:=qQ (d.out.symm.trans B.out);have t3:decide (((rdC a (nmC k)).1.size:Int)<12)=true:=qB (by omega);generalize rdC a (nmC k)=R at*;obtain⟨s,y,J⟩:=R;dsimp only at*;generalize scE s (k:Nat)=Q at*;generalize scL s (k:Nat)=pl at*;clear F N I p o d G K r O aa z Z;go_wp2_with fail;refine H.out.mono ?_;rintro e U⟨rfl,f⟩;have t:=qQ f;clear f;go_wp2_with fail;refine(C.out _).mono ?_;rintro e w3⟨u,rfl,l,j⟩;obtain⟨A,off,V,rfl,-,-⟩:=l.cell;have b:=qQ (t.out.below api j);have v:=b.out.cells.2.2.2.1;rw[P.out]at v;have Y:=b.out.frozen 4;have X:=b.out.cells.2.2.2.2.1;clear j l;go_wp2;go_ret;rw[<-m.out];exact⟨rfl,b.out⟩
   have t3:decide (((rdC a (nmC k)).1.size:Int)<12)=false:=qA (by omega);by_cases S:scE (rdC a (nmC k)).1 (k:Nat)<(rdC a (nmC k)).1.size
   ·have d:=qQ (BZ (L:=g) z o r (qY S));rw[<-p]at d;have m:=qQ (d.out.symm.trans B.out);have t4:decide (scE (rdC a (nmC k)).1 (k:Nat)<(rdC a (nmC k)).1.size)=true:=qB S;have t5:decide ((scE (rdC a (nmC k)).1 (k:Nat):Int)<((rdC a (nmC k)).1.size:Int))=true:=qB (by omega);generalize rdC a (nmC k)=R at*;obtain⟨s,y,J⟩:=R;dsimp only at*;generalize scE s (k:Nat)=Q at*;generalize scL s (k:Nat)=pl at*;clear F N I p o d G K r O aa z Z S;go_wp2_with fail;refine H.out.mono ?_;rintro e U⟨rfl,f⟩;have t:=qQ f;clear f;go_wp2_with fail;refine(C.out _).mono ?_;rintro e w3⟨u,rfl,l,j⟩;obtain⟨A,off,V,rfl,-,-⟩:=l.cell;have b:=qQ (t.out.below api j);have v:=b.out.cells.2.2.2.1;rw[P.out]at v;have Y:=b.out.frozen 4;have X:=b.out.cells.2.2.2.2.1;clear j l;go_wp2;go_ret;rw[<-m.out];exact⟨rfl,b.out⟩
   have t4:decide (scE (rdC a (nmC k)).1 (k:Nat)<(rdC a (nmC k)).1.size)=false:=qA S;have t5:decide ((scE (rdC a (nmC k)).1 (k:Nat):Int)<((rdC a (nmC k)).1.size:Int))=false:=qA (by omega);have d:=qQ (qQT (L:=g) z o r (by omega));rw[<-p]at d;have m:=qQ (d.out.symm.trans B.out);have hFr:=qQ fun(W:World)=>tc k W (by omega)
   have ak:IntKind.i64.wrap ((k:Int)*4096+(scE (rdC a (nmC k)).1 (k:Nat):Nat))=(k:Int)*4096+(scE (rdC a (nmC k)).1 (k:Nat):Nat):=qz _ (by omega);have eE:=qQ (show((4096*k+scE (rdC a (nmC k)).1 (k:Nat):Nat):Int)=(k:Int)*4096+(scE (rdC a (nmC k)).1 (k:Nat):Nat) by omega);generalize rdC a (nmC k)=R at*;obtain⟨s,y,J⟩:=R;dsimp only at*;generalize scE s (k:Nat)=Q at*;generalize scL s (k:Nat)=pl at*;clear F N I p o d r O aa z Z S;go_wp2_with fail;refine H.out.mono ?_;rintro e U⟨rfl,f⟩;have t:=qQ f;clear f;go_wp2_with fail;refine(C.out _).mono ?_;rintro e w3⟨u,rfl,l,j⟩;obtain⟨A,off,V,rfl,-,-⟩:=l.cell;have b:=qQ (t.out.below api j);have v:=b.out.cells.2.2.2.1;rw[P.out]at v;have Y:=b.out.frozen 4;have X:=b.out.cells.2.2.2.2.1;clear j l;go_wp2_with fail;refine(hFr.out _).mono ?_;rintro e w4⟨rfl,rfl⟩;have h5:=b.out.zQ api (4096*k+Q);rw[eE.out]at h5;have H5:=qQ h5;clear h5;go_wp2;exact⟨⟨k+1,J,_,by go_num,H5.out,G.out,by have:=ae.out;have:=K.out;omega,ai.out,m.out,by have:=af.out;omega⟩,by simp[intOf];have:=af.out;omega⟩
  ·obtain rfl:k=L.chunks:=(by omega);have l1:decide ((L.chunks:Int)<n)=false:=qA (by have:=M.out;omega);have e0:L.chunks-L.chunks=0:=Nat.sub_self _;have m:=qQ (show(0,a,g)=uT L.chunks 0 D L from by rw[<-B.out,e0];rfl);clear F ac e0;generalize (L.chunks:Int)=q at*;go_wp2;go_ret;rw[<-m.out];exact⟨rfl,HT.out⟩
end
def DSt(At:j6)(c:Ctx)(gd:Nat)(D:jL)(w:World):Prop :=
 ∃F,At w c.base gd F D/\(∀x∈F,x∈c.F0∨c.w0.1.size<=x)/\jP c.F0 c.w0 w/\c.wG.1.size<=w.1.size/\∀b∈c.G,c.w0.1.size<=b/\b<c.wG.1.size/\b ∉ F/\w.heap[b]? = c.wG.heap[b]?
theorem Jq: ∀(l:List Tw) (c:Nat),c<=200->(ym l c).2<=200
 | [],c,h=>h
 | s::r,c,h=>by
   unfold ym;split
   ·split
    ·exact h
    ·exact Jq r (c+1) (by omega)
   ·exact Jq r c h
theorem BJ{D:jL}(h:WfP D):WfP (yE D).2:=by
 unfold yE;split<;>exact dM h _
section
variable {At:j6}{c:Ctx}{gl gd:Nat}{L L':jq}{D D':jL}{w w':World}
theorem TSt.drop(h:TSt At c gl gd L D w)(l:c.w0.1.size<=gl):DSt At c gd D w:=by
 obtain⟨F,d,q,r,f,g,i,j⟩:=h;refine⟨F,d,f,g.more (fun x a=>?_),i,fun b k=>?_⟩
 ·rcases qM.1 a with rfl|a
  ·exact qY l
  ·exact qX a
 ·obtain⟨m,n,o,t,p⟩:=j b k;exact⟨m,n,o,p⟩
theorem DSt.log(api:j8 At)(h:DSt At c gd D w)(L:jq):TSt At { c with m:=.pointer none } w.1.size gd L D (w.alloc (.cells (gW (.pointer none) gd L) 130)):=by
 obtain⟨F,i,j,k,d,l⟩:=h;have a:jP [] w (w.alloc (.cells (gW (.pointer none) gd L) 130)):=(jP.refl [] w).alloc _;have o:=api.low i;refine⟨F,api.xC i a (fun _ _=>by simp),jN.new w _ _,fun p=>(by have:=(o _ p).2;omega),j,(k.trans a (fun x f=>by cases f)).more (fun x f=>qX (qF _ f)),qR d a.size,fun b n=>?_⟩;obtain⟨q,g,r,t⟩:=l b n;exact⟨q,g,r,Nat.ne_of_lt (qS g d),(a.block b (qS g d) (by simp)).trans t⟩
theorem TSt.names(api:j8 At)(h:TSt At c gl gd L D w):∀f∈D.l,f.name.size<=maxLen:=by
 obtain⟨F,a,_⟩:=h;intro f b;have:=(api.xI a).2 f b;unfold vY at this;simp only[Bool.and_eq_true,decide_eq_true_eq]at this;unfold maxLen;omega
theorem TSt.jG(api:j8 At)(h:TSt At c gl gd L D w)(v:Value):TSt At { c with m:=v } gl gd L D (w.setCell ⟨gl,0,none⟩ v):=by
 obtain⟨F,i,j,f,k,l,n,o⟩:=h;have a:jP [gl] w (w.setCell ⟨gl,0,none⟩ v):=(jP.refl [gl] w).setCell (p:=⟨gl,0,none⟩) (qX (qH.2 rfl)) _;refine⟨F,api.xC i a (fun x d r=>f (by rw[<-qH.1 r];exact d)),j.put 0 v,f,k,l.trans a (fun x d=>qX (by rw[qH.1 d];exact qC)),qR n a.size,fun b q=>?_⟩;obtain⟨t,u,y,g,z⟩:=o b q;exact⟨t,u,y,g,(a.block b (by omega) (by simpa using g)).trans z⟩
end
def BV(At:j6)(c:Ctx)(gd:Nat)(w:World)(r:Nat × jL × jq)(e:Ending)(w':World):Prop :=
 (r.1=0/\∃gl,e=.returned (.tuple #[ptr gl,.int .i64 0])/\w.1.size<=gl/\TSt At { c with m:=ptr gl } gl gd { r.2.2 with sure:=r.2.2.endp } r.2.1 w') ∨
 (r.1≠0/\e=.returned (.tuple #[.pointer none,err r.1])/\DSt At c gd r.2.1 w')
section
variable {At:j6}(api:j8 At)(nap:kZ)(cap:v8){c:Ctx}{gl gd:Nat}{L L':jq}{D D':jL}{w w':World}
include api nap cap
theorem qQ1{B4:Nat}(h:TSt At c gl gd ⟨D.xB,0,0,0⟩ D w)(ok:WfP D)(r:D.count<=1000000000)
  (o:B4∈c.G) (p:TypeId) (m:jN c.wG B4 p #[.func (.func 77) #[ptr gl] #[],.func (.func 78) #[ptr gl] #[],.func (.func 79) #[ptr gl] #[]]):
  Calls prog 76 #[.slice (some ⟨B4,0,none⟩) 3 3] w (vI At c gl gd (err (gO D).1) (gO D).2.2 (gO D).2.1):=by
 have j:WfP (yE D).2:=BJ ok
 have l:(yE D).2.count<=1000000000:=by
  have:(yE D).2.count=D.count:=by
   unfold yE
   have:(jh D jo).2.count=D.count:=by
    unfold jh y9;split
    ·rfl
    ·split
     ·split<;>rfl
     ·rfl
   split<;>exact this
  omega
 have H:=ZL (b:=B4) (n:=3) (by omega) (uz (yE D).1 (uf (yE D).2 ⟨D.xB,0,0,0⟩).1 (fC (uf (yE D).2 ⟨D.xB,0,0,0⟩).2.1 (uf (yE D).2 ⟨D.xB,0,0,0⟩).2.2).1 0)
  (fun k W=>TSt At c gl gd (uz ⟨D.xB,0,0,0⟩ ⟨D.xB,0,0,0⟩ (uf (yE D).2 ⟨D.xB,0,0,0⟩).2.2 (fC (uf (yE D).2 ⟨D.xB,0,0,0⟩).2.1 (uf (yE D).2 ⟨D.xB,0,0,0⟩).2.2).2.2 k) (uz D (yE D).2 (uf (yE D).2 ⟨D.xB,0,0,0⟩).2.1 (fC (uf (yE D).2 ⟨D.xB,0,0,0⟩).2.1 (uf (yE D).2 ⟨D.xB,0,0,0⟩).2.2).2.1 k) W)
  (uz 77 78 79 0) (uz #[ptr gl] #[ptr gl] #[ptr gl] #[]) (uz #[] #[] #[] #[])
  (fun k d=>by
   match k,d with
   | 0,_=>exact enters_of func77 (by kernel_rfl) rfl
   | 1,_=>exact enters_of func78 (by kernel_rfl) rfl
   | 2,_=>exact enters_of func79 (by kernel_rfl) rfl)
  (fun k W d a=>by
   have q:=(a.xW o m).cell k
   match k,d with
   | 0,_=>exact q
   | 1,_=>exact q
   | 2,_=>exact q)
  (fun k W d a=>by
   match k,d with
   | 0,_=>exact qQD api a ok
   | 1,_=>exact qQN api nap a j rfl (a.names api)
   | 2,_=>exact qQ0 api nap cap a j l (Jq _ 0 (by omega))) w h
 refine H.mono ?_;rintro e w'⟨rfl,a⟩;unfold gO onD;by_cases f:(yE D).1=0
 ·by_cases g:(uf (yE D).2 ⟨D.xB,0,0,0⟩).1=0
  ·by_cases i:(fC (uf (yE D).2 ⟨D.xB,0,0,0⟩).2.1 (uf (yE D).2 ⟨D.xB,0,0,0⟩).2.2).1=0
   ·simp[stR,uz,uX,f,g,i]at a ⊢;exact⟨by simp,a⟩
   ·simp[stR,uz,uX,f,g,i]at a ⊢;exact⟨rfl,a⟩
  ·simp[stR,uz,uX,f,g]at a ⊢;exact⟨rfl,a⟩
 ·simp[stR,uz,uX,f]at a ⊢;exact⟨rfl,a⟩
theorem qQ2(h:DSt At c gd D w)(ok:WfP D)(o:D.count<=1000000000):Calls prog 38 #[ptr gd] w (BV At c gd w (gO D)):=by
 have z:=qQ (show Calls prog 75 #[ptr gd] w (X0 (.int .i64 (D.xB:Nat)) w) from api.jD (Classical.choose_spec h).1);have d:=h.log api ⟨D.xB,0,0,0⟩;have f:=d.keep;generalize A:w.1.size=gl at*;have l:gW (.pointer none) gd ⟨D.xB,0,0,0⟩=#[.pointer none,ptr gd,.int .i64 (D.xB:Nat),.int .i64 0,.int .i64 0,.int .i64 0]:=rfl;rw[l]at d f;generalize U:w.alloc (.cells #[.pointer none,ptr gd,D.xB,.int .i64 0,.int .i64 0,.int .i64 0] 130)=G at*;have m:=d.box api (.cells #[.func (.func 77) #[ptr gl] #[],.func (.func 78) #[ptr gl] #[],.func (.func 79) #[ptr gl] #[]] 56);have q:=jN.new G 56 #[.func (.func 77) #[ptr gl] #[],.func (.func 78) #[ptr gl] #[],.func (.func 79) #[ptr gl] #[]];have f:=f.alloc (.cells #[.func (.func 77) #[ptr gl] #[],.func (.func 78) #[ptr gl] #[],.func (.func 79) #[ptr gl] #[]] 56);have V:∀(y:Fn) (first cap:Array Value) (w:World),(Instr.makeFunc y first cap).run prog w=.ok (.func y first cap) w:=fun _ _ _ _=>rfl
 have R:=qQ (qQ1 api nap cap m ok o (by simp) _ q);have v:=qQ f;have u:=qQ d
 have p:c.w0.1.size<=gl:=by
  obtain⟨F,K,M,H,N,O⟩:=h;rw[<-A];exact H.size
 have C:=qQ p;have B:=qQ A;unfold BV;by_cases i:(gO D).1=0
 ·rw[i]at R;have k:=qQ i;generalize gO D=r at*;clear h ok o d m q f i l p;go_enter func38,ntmps38;go_wp2_with fail;refine z.out.mono ?_;rintro e I⟨rfl,rfl⟩;go_wp2_with fail;refine R.out.mono ?_;rintro e J⟨rfl,g⟩;have a:=g.xr u.out v.out rfl rfl rfl rfl (fun b n=>by simp[n]);obtain⟨c0,_,_,_,P,Q⟩:=a.cells;have S:=a.frozen 0;have T:=a.frozen 5;have j:=qQ ((a.jG api (ptr gl)).zO api r.2.2.endp);clear g a;go_wp2;go_ret2;exact qX ⟨k.out,gl,rfl,Nat.le_of_eq B.out,j.out⟩
 ·have t:(((gO D).1:Int) != 0)=true:=by simp;omega
  have k:=qQ i;generalize gO D=r at*;clear h ok o d m q f i l p;go_enter func38,ntmps38;go_wp2_with fail;refine z.out.mono ?_;rintro e I⟨rfl,rfl⟩;go_wp2_with fail;refine R.out.mono ?_;rintro e J⟨rfl,g⟩;have a:=g.xr u.out v.out rfl rfl rfl rfl (fun b n=>by simp[n]);have j:=qQ (a.drop C.out);clear g a;go_wp2;go_ret2;exact qY ⟨k.out,rfl,j.out⟩
end
end
end Go.Proofs.YthejglbnkmimjaaGreat
