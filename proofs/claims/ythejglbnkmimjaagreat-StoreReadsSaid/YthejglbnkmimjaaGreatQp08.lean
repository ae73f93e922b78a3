import Derived.RangeFuncNested
import Derived.RangeFuncBound
import Derived.OwnWalkIn
import Derived.TacticsInMore
import Derived.LoopNIn
import Derived.LoopIn
import Derived.Stop.RegionWithIn
import Derived.Test.YthejglbnkmimjaaGreatQp07
set_option linter.unusedVariables false
set_option maxRecDepth 100000
set_option maxHeartbeats 9000000
namespace Go.Proofs.YthejglbnkmimjaaGreat
open Proofs.Tryz
section
open Go.RowKit Go.Shelf
attribute [local go_sem] Oper.semAt_some
abbrev nJ(h:Nat)(p b:Int) := { k:Nat // k∈gK h p b }
def QQ{h:Nat}{p b:Int}(x:nJ h p b):Array Value:=#[.int .i64 (x.1:Nat)]
def cT{h:Nat}{p b:Int}(a:List (nJ h p b)):List Nat:=a.map (·.1)
theorem Ru{h:Nat}{p b:Int}:cT ([]:List (nJ h p b))=[]:=rfl
theorem Ul{h:Nat}{p b:Int}(a:List (nJ h p b))(x:nJ h p b):cT (a++[x])=cT a++[x.1]:=by simp[cT]
def nK(A B C:Nat)(W a:World):Prop:=a.heap[A]? = W.heap[A]?/\a.heap[B]? = W.heap[B]?/\a.heap[C]? = W.heap[C]?
theorem Rc{A B C:Nat}{X Y Z:World}(h:nK A B C X Y)(k:nK A B C Y Z):nK A B C X Z:=⟨Eq.trans k.1 h.1,Eq.trans k.2.1 h.2.1,Eq.trans k.2.2 h.2.2⟩
theorem Rf{A B C:Nat}{w:World}(f:A<w.1.size)(b:B<w.1.size)(g:C<w.1.size)(W:World)(l:Nat)(o d:Obj)(i:w.1.size<=l)(h:W.heap[l]? = some o)(_ : o.isCells=false)(_ : o.isWalk=false):nK A B C W (W.putObj l d):=by
 have j:=(ql.1 h).1;have a:=fun(B:Nat) (b:B<w.1.size)=>(grownBy_putObj' W l d).block B (by omega) (fun e=>by cases e;omega)
 exact⟨a A f,a B b,a C g⟩
theorem Rh(n:Nat)(hn:1<=n)(l o m j g:Nat)(p b:Int)(Z:g<18446744073709551616)(wp:(Lit.int .i64 p).wf=true)(wb:(Lit.int .i64 b).wf=true)(J A:List (nJ g p b)->World->Prop)(W:World)(hJ:AbidesFrom W.1.size J)
  (Y:∀a x r,J a r->a.length<64->YieldAt Fence.wide (n-1) prog l (QQ x) r fun e d =>
   (e=.returned (.bool true)/\J (a++[x]) d/\nK o m j r d)∨(e=.returned (.bool false)/\A (a++[x]) d))
  (B:Boxed W o 3 (.int .i64 p)) (T:Boxed W m 23 (.int .u64 (g:Nat))) (S:Boxed W j 3 (.int .i64 b)) (R:J [] W):
  CallsIn Fence.wide n prog 298 #[.func (.yield l) #[] #[],.pointer (some ⟨o,0,none⟩),.pointer (some ⟨m,0,none⟩),.pointer (some ⟨j,0,none⟩)] W fun e d=>(∃v,e=.returned v) /\
   ((∃ys,cT ys=gK g p b/\J ys d)∨(∃a,True/\A a d)):=by
 have ae:=FO p;have bp:=bounds_i64 wp;refine callsIn_of_wp func298 rfl trivial ?_ rfl;simp only[ntmps298,List.size_toArray,List.length_cons,List.length_nil,Nat.reduceAdd,Nat.reduceSub,Array.replicate_succ,Array.replicate_zero,List.push_toArray,List.append_toArray,List.nil_append,List.cons_append];have af:=B.cell;have ag:(nps p:Int)=max 0 (min p 64):=by unfold nps;omega
 have M:=qQ (FS g p b);have O:=qQ fun(i:Nat) (F:i<nps p)=>show prb g (i:Nat) b∈gK g p b from sR.2 ⟨i,F,rfl⟩
 have Q:=qQ fun(i:Nat)=>FR g b i
 have P:=qQ fun(i:Nat) (w:World) (F:i<64)=>Vz g (i:Nat) b w Z (WalkArith.wf_i64 (by omega)) wb
 gi_wp2
 all_goals
  gi_loopw [8] (fun f wr=>∃(k:Nat) (a:List (nJ g p b)),k<=nps p/\a.length=k/\f=.int .i64 k/\cT a=pF g b k/\J a wr/\Boxed wr o 3 (.int .i64 p)/\Boxed wr m 23 (.int .u64 (g:Nat))/\Boxed wr j 3 (.int .i64 b))
   (fun f _=>nps p-(intOf f).toNat)
  case atStart=>exact⟨0,[],qI _,rfl,rfl,rfl,R,B,T,S⟩
  case round =>
   obtain⟨k,a,hk,ab,rfl,G,C,q1,I,K⟩:=hrel;by_cases aa:k<nps p
   ·have c2:=I.cell;have c3:=K.cell;have y:=qQ fun w=>P.out k w (by omega)
    have u:=qQ (Q.out k);obtain⟨x,t,H⟩:∃x,∃t:x∈gK g p b,prb g (k:Nat) b=x:=⟨_,O.out k aa,rfl⟩
    rw[H]at y u;have q:=qQ (Y a ⟨x,t⟩ wr C (by omega));have z:=qQ (Ul a ⟨x,t⟩);unfold QQ at q;simp only at q z;clear H
    gi_wp2
    refine⟨trivial, ?_⟩;refine(callsIn_wide.2 (y.out _)).mono ?_;rintro e w1⟨rfl,rfl⟩;obtain⟨fn,ah,ac,ad,hy,X⟩:=q.out
    gi_wp2
    refine X.mono ?_;rintro e W3 (⟨rfl,U,r1,r2,r3⟩|⟨rfl,V⟩)
    ·gi_wp2
     go_roundw
     case rel =>
      exact⟨k+1,_,by omega,by rw[qN,ab];rfl,by go_num,by rw[z.out,u.out,G],U,Eq.trans r1 q1,Eq.trans r2 I,Eq.trans r3 K⟩
     case measure=>simp[intOf];omega
    ·gi_wp2
     refine bodyPost_ret (results_none rfl _ _ _) rfl ?_;exact⟨⟨_,rfl⟩,.inr ⟨_,trivial,V⟩⟩
   ·obtain rfl:k=nps p:=(by omega);have N:=qQ (qG (G.trans M.out) C)
    gi_wp2
    go_end0;exact⟨⟨_,rfl⟩,.inl ⟨a,N.out⟩⟩
theorem QX{W a:World}{B:Nat}{t:TypeId}{v:Value}(h:Boxed W B t v)(b:Below W.1.size W a):Boxed a B t v:=(b.block B h.lt).trans h
theorem Rl(n:Nat)(v:1<=n)(f d a g:Nat)(p b:Int)(u:g<18446744073709551616)(z:(Lit.int .i64 p).wf=true)(y:(Lit.int .i64 b).wf=true)(w:World)
  (q:Boxed w f 3 (.int .i64 p)) (o:Boxed w d 23 (.int .u64 (g:Nat))) (m:Boxed w a 3 (.int .i64 b)):
  SeqStopsK Fence.wide n prog 298 #[.pointer (some ⟨f,0,none⟩),.pointer (some ⟨d,0,none⟩),.pointer (some ⟨a,0,none⟩)] (QQ (h:=g) (p:=p) (b:=b)) (nK f d a)
   (fun ys=>cT ys=gK g p b) (fun _=>True) 64 w:=fun l J j W i r _ t k =>
 Rh n v l f d a g p b u z y J j W r t (QX q i) (QX o i) (QX m i) k
theorem Rm(n:Nat)(g p b:Int)(w:World):
  CallsIn Fence.wide n prog 266 #[.int .u64 g,p,b] w fun e w'=>e=.returned (.func (.func 298) #[] #[.pointer (some ⟨w.1.size+1,0,none⟩),.pointer (some ⟨w.1.size,0,none⟩),.pointer (some ⟨w.1.size+2,0,none⟩)]) /\
   w'=((w.alloc (.cells #[.int .u64 g] 23)).alloc (.cells #[p] 3)).alloc (.cells #[b] 3):=by
 refine callsIn_of_wp func266 rfl trivial ?_ rfl;simp only[ntmps266,List.size_toArray,List.length_cons,List.length_nil,Nat.reduceAdd,Nat.reduceSub,Array.replicate_succ,Array.replicate_zero,List.push_toArray,List.append_toArray,List.nil_append,List.cons_append]
 gi_wp2
 go_ret;exact⟨rfl,rfl⟩
end
section
open Go.RowKit Go.Shelf
attribute [local go_sem] Oper.semAt_some
theorem dS.form{a:Nat->Value}{w:World}{v:Value}{l:List Nat}(h:dS a w v l):∃A c,v=.slice A l.length c:=by
 rcases h with⟨rfl,A,c,rfl⟩|⟨_,b,off,c,rfl,_⟩
 ·exact⟨A,c,rfl⟩
 ·exact⟨_,c,rfl⟩
theorem dS.at{a:Nat->Value}{w:World}{A:Option Addr}{c:Nat}{l:List Nat}(h:dS a w (.slice A l.length c) l)(d:0<l.length):
  ∃b off,A=some ⟨b,off,none⟩/\b<w.1.size/\l.length<=c/\∀i,i<l.length->w.cell? ⟨b,off+i,none⟩=some (a (l.getD i 0)):=by
 rcases h with⟨rfl,_⟩|⟨_,b,off,cap,j,g,f,k⟩
 ·cases d
 ·cases j;exact⟨b,off,rfl,f,g,k⟩
theorem Rn(v:Value)(l:List Nat)(p b:Int)(w:World)(o:dS gP w v l)(f:(Lit.int .i64 b).wf=true)(a:lS b=false):
  Calls prog 230 #[v,p,b] w (X3 (.string (bs (dN l p b))) w):=by
 have g:=bounds_i64 f;have n:¬(1<=b/\b<=1000000/\b%8=0):=by unfold lS at a;exact of_decide_eq_false a
 rw[Fk a];go_enter func230,ntmps230;by_cases i:b<1
 ·go_wp2;go_ret;exact⟨rfl,qU _ _⟩
 ·by_cases j:1000000<b
  ·go_wp2;go_ret;exact⟨rfl,qU _ _⟩
  ·obtain⟨m,rfl⟩:∃m:Nat,b=m:=⟨b.toNat,by omega⟩
   have d:¬(m:Int)%8=0:=(by omega);have k:((m:Int)%8 != 0)=true:=(by simpa using d);go_wp2;go_ret;exact⟨rfl,qU _ _⟩
structure Um(w:World)(b p:Int)(n:Nat)(l:List Nat)(k:Nat)(Ds:List Nat)(W:World):Prop where
 box:Boxed W (w.1.size+1) 154 (.slice (some ⟨w.1.size,0,none⟩) n n)
 row:RowB W w.1.size n (fun i=>.int .u8 (byL (fX (l.take k) p b) i:Nat))
 below:Below w.1.size w W
 defs:gO (w.1.size+2) Ds W
theorem Rp(v:Value)(l:List Nat)(p:Int)(m n:Nat)(w:World)(hv:dS gP w v l)(wl:XW l)(hl:l.length<=1000)(wp:(Lit.int .i64 p).wf=true)(S:m=8*n)(aA:0<n)(hn:n<=125000):
  Calls prog 230 #[v,p,m] w (X3 (.string (bs (lR (fX l p (m:Nat)) n))) w):=by
 obtain⟨A,c,rfl⟩:=hv.form;have wb:(Lit.int .i64 (m:Nat)).wf=true:=WalkArith.wf_i64 (by omega);have h1:¬(m:Int)<1:=by omega
 have h2:¬1000000<(m:Int):=by omega
 have h3:((m:Int)%8 != 0)=false:=by simp;omega
 have h4:IntKind.i64.wrap ((m:Int)/8)=(n:Int):=by rw[IntKind.wrap_i64];omega
 have J:=run_make_row' (P:=prog) 154 5 (.int .u8 0) 1 Tryz.underlying154 (by kernel_rfl) rfl .i64 .i64 n (by omega) (by omega);have aa:=Di w (.int .u8 0) n 5;obtain⟨Z,hZ⟩:∃Z,madeCells #[Value.int .u8 0] n=Z:=⟨_,rfl⟩
 rw[hZ]at J aa;clear hZ;refine(callsIn_wide (n:=8)).1 ?_;refine callsIn_of_wp_marks func230 rfl trivial ?_ rfl;simp only[ntmps230,List.size_toArray,List.length_cons,List.length_nil,Nat.reduceAdd,Nat.reduceSub,Array.replicate_succ,Array.replicate_zero,List.push_toArray,List.append_toArray,List.nil_append,List.cons_append];have HM:=qQ S;clear S;have aq:=qQ (Fz p (m:Nat))
 have ae:Um w (m:Nat) p n l 0 [] ((w.alloc (.cells Z 5)).alloc (.cells #[.slice (some ⟨w.1.size,0,none⟩) n n] 154)):=by
  refine⟨?_,(aa.alloc _).congr fun i _=>?_,((qU _ w).alloc (qK _) _).alloc (by simp) _,gO.nil _ _⟩
  ·have h:=Boxed.new (w.alloc (.cells Z 5)) 154 (.slice (some ⟨w.1.size,0,none⟩) n n);rw[World.size_alloc]at h;exact h
  ·rw[List.take_zero,aq.out,Fq];rfl
 clear aa
 gi_wp2
 refine wpIn_loop (fun X w'=>∃(k:Nat) (q:List Nat) (u3 u4 u5 u6 u8 u9 u10 u11 u12 u13 u14 u15 u16 u17 u18 u19 u20 u21 u22 u23 u24 u27 u28 u29 u30 u31 u32 u33 u34 u35 u36 u37 u38 u39 u40 u41 u42 u43 u44 u45 u46 u47:Value),(k<=l.length/\u27=.int .i64 (k:Nat)/\Um w (m:Nat) p n l k q w')/\X={ tmps:=#[.slice A l.length c,.int .i64 p,.int .i64 (m:Nat),u3,u4,u5,u6,.pointer (some ⟨w.1.size+1,0,none⟩),u8,u9,u10,u11,u12,u13,u14,u15,u16,u17,u18,u19,u20,u21,u22,u23,u24,.slice A l.length c,.int .i64 (l.length:Nat),u27,u28,u29,u30,u31,u32,u33,u34,u35,u36,u37,u38,u39,u40,u41,u42,u43,u44,u45,u46,u47],defers:=q.map KH })
  (fun X _=>l.length-(intOf (X.tmps.getD 27 undef)).toNat) ?atStart ?round
 case atStart=>exact⟨0,[],_,_,_,_,_,_,_,_,_,_,_,_,_,_,_,_,_,_,_,_,_,_,_,_,_,_,_,_,_,_,_,_,_,_,_,_,_,_,_,_,_,_,⟨qI _,rfl,ae⟩,rfl⟩
 case round =>
  rintro _ wr⟨k,q,u3,u4,u5,u6,u8,u9,u10,u11,u12,u13,u14,u15,u16,u17,u18,u19,u20,u21,u22,u23,u24,u27,u28,u29,u30,u31,u32,u33,u34,u35,u36,u37,u38,u39,u40,u41,u42,u43,u44,u45,u46,u47,⟨hk,rfl,a⟩,rfl⟩;clear ae J;by_cases ac:k<l.length
  ·obtain⟨V,off,rfl,ar,ax,ai⟩:=hv.at (by omega);have aj:=(a.below.cell (p:=⟨V,off+k,none⟩) ar).trans (ai k ac);have hg:=ML wl k;have HT:=qQ (MM l k ac);unfold gP at aj;generalize l.getD k 0=g at*;have s1:(k:Int)<(l.length:Int):=(by omega);clear ai
   gi_wp2
   refine⟨trivial, ?_⟩;refine(Rm _ _ _ _ _).mono ?_;rintro e w'⟨rfl,rfl⟩
   gi_wp2
   have G:Below wr.1.size wr (((wr.alloc (.cells #[.int .u64 (g:Nat)] 23)).alloc (.cells #[p] 3)).alloc (.cells #[m] 3)):=(((qU _ wr).alloc (qK _) _).alloc (by simp) _).alloc (by simp;omega) _;obtain⟨b,H⟩:∃b,(((wr.alloc (.cells #[.int .u64 (g:Nat)] 23)).alloc (.cells #[p] 3)).alloc (.cells #[m] 3))=b:=⟨_,rfl⟩
   have aB:b.1.size=wr.1.size+3:=(by rw[<-H];simp);have b0:Boxed b wr.1.size 23 (.int .u64 (g:Nat)):=by rw[<-H];exact((Boxed.new wr 23 (.int .u64 (g:Nat))).alloc _).alloc _
   have b1:Boxed b (wr.1.size+1) 3 (.int .i64 p):=by
    have h:=Boxed.new (wr.alloc (.cells #[.int .u64 (g:Nat)] 23)) 3 (.int .i64 p);rw[World.size_alloc]at h;rw[<-H];exact h.alloc _
   have b2:Boxed b (wr.1.size+2) 3 (.int .i64 (m:Nat)):=by
    have h:=Boxed.new ((wr.alloc (.cells #[.int .u64 (g:Nat)] 23)).alloc (.cells #[p] 3)) 3 (.int .i64 (m:Nat));rw[World.size_alloc,World.size_alloc]at h;rw[<-H];exact h
   rw[H]at G ⊢;clear H;obtain⟨t,Y⟩:∃t,fX (l.take k) p (m:Nat)=t:=⟨_,rfl⟩
   have ag:=QX a.box G;have I:=a.row.below G;have af:=bj a.below G;rw[Y]at I;have ad:∀D∈q,D<b.1.size:=fun D u=>qS (a.defs.lt u) G.size
   have ak:gO (w.1.size+2) q b:=⟨a.defs.1,fun D u=>⟨(a.defs.2 D u).1,(G.block D (a.defs.lt u)).trans (a.defs.2 D u).2⟩⟩
   have av:w.1.size+2<=wr.1.size:=a.box.lt;have ap:=qQ HM.out;have ao:=qQ Y;clear a G aj Y
   refine wpIn_rangeFunc_ownG rfl (by omega) (gf:=298) (lb:=#[.pointer (some ⟨wr.1.size+1,0,none⟩),.pointer (some ⟨wr.1.size,0,none⟩),.pointer (some ⟨wr.1.size+2,0,none⟩)]) rfl trivial (enters_of func298 (by kernel_rfl) rfl)
    (Rl _ (by omega) (wr.1.size+1) wr.1.size (wr.1.size+2) g p (m:Nat) hg wp wb b b1 b0 b2) Rc (Rf (by omega) (by omega) (by omega)) (qU _ _) (fun _=>rfl)
    (fun o W=>((Boxed W (w.1.size+1) 154 (.slice (some ⟨w.1.size,0,none⟩) n n)/\RowB W w.1.size n (fun i=>.int .u8 (byL (t++cT o) i:Nat)))/\Below w.1.size w W)/\gO (w.1.size+2) q W)
    (fun _ _ _=>False)
    (OwnFrom.and (OwnFrom.and (OwnFrom.and (Own.from (boxed_own (w.1.size+1) 154 (fun _=>.slice (some ⟨w.1.size,0,none⟩) n n)) _) (Own.from (RowB.own w.1.size n (fun o i=>.int .u8 (byL (t++cT o) i:Nat))) _)) (ownFrom_below (qK _) (by omega))) (Do ad))
    (fun _ _ _ _ _ hs _ _=>hs)
    ⟨⟨⟨ag,by simpa only[Ru,List.append_nil] using I⟩,af⟩,ak⟩
    (fun x=>{ tmps:=#[.slice (some ⟨V,off,none⟩) l.length c,.int .i64 p,.int .i64 (m:Nat),u3,u4,u5,u6,.pointer (some ⟨w.1.size+1,0,none⟩),u8,.int .u64 (g:Nat),.int .i64 (x.1:Nat),u11,u12,u13,u14,u15,u16,u17,u18,u19,u20,u21,u22,u23,u24,.slice (some ⟨V,off,none⟩) l.length c,.int .i64 (l.length:Nat),.int .i64 (k:Nat),.bool true,.pointer (some ⟨V,off+k,none⟩),.int .u64 (g:Nat),.int .u64 (g:Nat),.int .i64 p,.int .i64 (m:Nat),.func (.func 298) #[] #[.pointer (some ⟨wr.1.size+1,0,none⟩),.pointer (some ⟨wr.1.size,0,none⟩),.pointer (some ⟨wr.1.size+2,0,none⟩)],.int .i64 (x.1:Nat),u36,u37,u38,u39,u40,u41,u42,u43,u44,u45,u46,u47],defers:=[] })
    ?assign ?body ?done ?stop
   case assign =>
    rintro lo x W K N;unfold QQ
    gi_wp2
    exact N
   case body =>
    rintro lo o⟨x,hx⟩ W ⟨⟨⟨r,d⟩,C⟩,F⟩ ay;have az:x<m:=(by have:=FP (by omega) hx;omega);obtain⟨y,T⟩:∃y,x/8=y:=⟨_,rfl⟩
    have an:y<n:=(by have:=ap.out;omega);have s2:(y:Int)<(n:Int):=(by omega);have s3:IntKind.i64.wrap ((x:Int)/8)=(y:Int):=(by rw[IntKind.wrap_i64];omega);have c7:=r.cell;have cR:=d.cell an;have fR:=d.frozen an;have HK:=qQ fun W=>MH x W (by omega)
    have al:=XU (Nat.mod_lt x (by decide):x%8<8);have ah:=mR (t++cT o) y;have z:=F8 (t++cT o) x;rw[T]at z;obtain⟨U,J⟩:∃U,2 ^ (x%8)=U:=⟨_,rfl⟩
    rw[J]at HK al z;obtain⟨M,ab⟩:∃M,byL (t++cT o) y=M:=⟨_,rfl⟩
    simp only[ab]at cR ah z;have hA:=u8_or_nat M U ah al;obtain⟨f,am⟩:∃f,M|||U=f:=⟨_,rfl⟩
    rw[am]at z hA;have HI:=qQ (qG r (qG d (qG C (qG F (qG z T)))));have HV:=qQ (Ul o ⟨x,hx⟩);clear ab am J z
    have au:KeepsFrom b.1.size W (W.setCell ⟨w.1.size,y,none⟩ (.int .u8 (f:Nat))).drew/\nK (wr.1.size+1) wr.1.size (wr.1.size+2) W (W.setCell ⟨w.1.size,y,none⟩ (.int .u8 (f:Nat))).drew /\
      (((Boxed (W.setCell ⟨w.1.size,y,none⟩ (.int .u8 (f:Nat))).drew (w.1.size+1) 154 (.slice (some ⟨w.1.size,0,none⟩) n n)/\RowB (W.setCell ⟨w.1.size,y,none⟩ (.int .u8 (f:Nat))).drew w.1.size n (fun i=>.int .u8 (byL (t++cT (o++[⟨x,hx⟩])) i:Nat)))/\Below w.1.size w (W.setCell ⟨w.1.size,y,none⟩ (.int .u8 (f:Nat))).drew)/\gO (w.1.size+2) q (W.setCell ⟨w.1.size,y,none⟩ (.int .u8 (f:Nat))).drew):=by
     obtain⟨r,d,C,F,z,T⟩:=HI.out;have hk:=(KeepsOthers.setCell W ⟨w.1.size,y,none⟩ (.int .u8 (f:Nat))).from b.1.size;have R:∀j,w.1.size<j->(W.setCell ⟨w.1.size,y,none⟩ (.int .u8 (f:Nat))).heap[j]? = W.heap[j]? := fun j hj=>Below.heap_setCell _ _ _ j (fun e=>by have e':j=w.1.size:=e;omega)
     refine⟨⟨hk.size,hk.same⟩,⟨R _ (by omega),R _ (by omega),R _ (by omega)⟩,⟨⟨(R _ (by omega)).trans r, ?_⟩,(C.setCell (p:=⟨w.1.size,y,none⟩) (qK _) _).drew⟩, ?_⟩
     ·refine RowB.congr (d.set y _) fun i hi=>?_
      rw[HV.out,<-qn];by_cases e:i=y
      ·subst e;rw[qV rfl,z]
      ·rw[qZ e,F9 _ _ _ (by rw[T];exact e)]
     ·exact F.setCell (by omega) _ _
    simp only
    gi_wp2
    gi_region_with (refine⟨trivial, ?_⟩;gi_at_call 267;refine(CallsIn.inRound lo (callsIn_wide.2 (HK.out _))).mono ?_;rintro e w3⟨rfl,rfl⟩)
    all_goals exact au
   case done =>
    rintro D ys W u Q⟨⟨⟨r,d⟩,C⟩,F⟩ N;have HF:=qQ (qG r (qG d (qG C (qG (F.cons (by omega) N (fun S=>by have:=ad D S;omega)) Q))));clear r d C F N Q ag I af ak
    gi_wp2
    obtain⟨r,d,C,F,Q⟩:=HF.out;refine⟨⟨k+1,D::q,_,_,_,_,_,_,_,_,_,_,_,_,_,_,_,_,_,_,_,_,_,_,_,_,_,_,_,_,_,_,_,_,_,_,_,_,_,_,_,_,_,_,⟨ac, ?_,⟨r,d.congr fun i hi=>?_,C,F⟩⟩,rfl⟩, ?_⟩
    ·go_num
    ·rw[Q,HT.out,Fj,ao.out]
    ·simp[intOf];omega
   case stop =>
    rintro D cc o W _ _ h _;exact h.elim
  ·obtain rfl:k=l.length:=(by omega);have aw:=a.box.cell;obtain⟨L,O⟩:∃L,lR (fX l p (m:Nat)) n=L:=⟨_,rfl⟩
   have I:RowB wr w.1.size n (lH L):=a.row.congr fun i hi=>by
    rw[<-O,List.take_length];unfold lH;rw[Fx _ hi]
   have ab:=KJ I (by rw[<-O,Kz]) n;have u:=qQ a.defs;have hB:=qQ a.below;have HL:=qQ O;clear O I a
   gi_wp2
   refine KI (B:=w.1.size+2) q wr u.out (fun w' hw=>?_);refine⟨.string ⟨L.toArray⟩, ?_,by rw[HL.out];rfl,hB.out.trans (hw.mono (by omega))⟩;simp[results,Tryz.f230,go_sem]
theorem Rr(v:Value)(l:List Nat)(p b:Int)(w:World)(d:dS gP w v l)(i:XW l)(f:l.length<=1000)(j:(Lit.int .i64 p).wf=true)(g:(Lit.int .i64 b).wf=true):
  Calls prog 230 #[v,p,b] w (X3 (.string (bs (dN l p b))) w):=by
 cases a:lS b with
 | false=>exact Rn v l p b w d g a
 | true =>
   have k:1<=b/\b<=1000000/\b%8=0:=(by unfold lS at a;exact of_decide_eq_true a);rw[Kj a];obtain⟨m,rfl⟩:∃m:Nat,b=m:=⟨b.toNat,by omega⟩
   rw[qm];exact Rp v l p m (m/8) w d i f j (by omega) (by omega) (by omega)
end
section
open Go.RowKit Go.Shelf
attribute [local go_sem] Oper.semAt_some
abbrev dg(s:Tw) := { k:Nat // um s k=true }
def QZ(s:Tw)(x:dg s):Array Value:=#[.int .i64 (x.1:Int),.int .i64 (yU s (x.1:Nat):Nat)]
def nV(s:Tw)(a:Nat)(b:List (dg s)):Nat:=(b.getLast?.map fun x=>yU s (x.1:Nat)).getD a
theorem Un(s:Tw)(a:Nat)(b:List (dg s))(x:dg s):nV s a (b++[x])=yU s (x.1:Nat):=by simp[nV]
def bT{s:Tw}(a:List (dg s)):List Int:=a.map fun x=>(x.1:Int)
theorem Up{s:Tw}(a:List (dg s))(x:dg s):bT (a++[x])=bT a++[(x.1:Int)]:=by simp[bT]
theorem Rs{s:Tw}(a:List (dg s)):(bT a).length=a.length:=by simp[bT]
def oM(B:Nat)(W a:World):Prop:=a.heap[B]? = W.heap[B]?
theorem Rt{B:Nat}{X Y Z:World}(h:oM B X Y)(k:oM B Y Z):oM B X Z:=Eq.trans k h
theorem Re{B:Nat}{w:World}(b:B<w.1.size)(W:World)(l:Nat)(o a:Obj)(d:w.1.size<=l)(h:W.heap[l]? = some o)(_ : o.isCells=false)(_ : o.isWalk=false):oM B W (W.putObj l a) :=
 (grownBy_putObj' W l a).block B (by have:=(ql.1 h).1;omega) (fun e=>by cases e;omega)
theorem Zi{W a:World}{B:Nat}{t:TypeId}{v:Value}(h:Boxed W B t v)(b:Below W.1.size W a):Boxed a B t v:=(b.block B h.lt).trans h
theorem Ur{W a:World}(h:Below W.1.size W a):W.grownBy a none:=⟨h.os,h.tape,h.output,h.size,fun k b _=>h.block k b⟩
theorem Ri(n:Nat)(hn:1<=n)(l t I b:Nat)(s:Tw)(hs:s.size<=1100000)(ae:b<=s.size)(J O:List (dg s)->World->Prop)(W:World)(Q:AbidesFrom W.1.size J)
  (S:∀a x F,J a F->a.length<s.size+1->YieldAt Fence.wide (n-1) prog l (QZ s x) F fun e o =>
   (e=.returned (.bool true)/\J (a++[x]) o/\oM t F o)∨(e=.returned (.bool false)/\O (a++[x]) o))
  (aa:Boxed W t 9 (.string s)) (aj:W.cell? ⟨I,0,none⟩=some (.int .i64 b)) (h0:J [] W):
  CallsIn Fence.wide n prog 249 #[.func (.yield l) #[] #[],.pointer (some ⟨I,0,none⟩),.pointer (some ⟨t,0,none⟩)] W fun e o=>(∃v,e=.returned v) /\
   ((∃ys,(bT ys=whL s (s.size+1) b/\nV s b ys=whE s (s.size+1) b)/\J ys o)∨(∃a,True/\O a o)):=by
 have Y:=qQ (show bT ([]:List (dg s))++whL s (s.size+1) b=whL s (s.size+1) b from rfl);obtain⟨L,i⟩:∃L,whL s (s.size+1) b=L:=⟨_,rfl⟩
 obtain⟨E,g⟩:∃E,whE s (s.size+1) b=E:=⟨_,rfl⟩
 have Z:=qQ i;have X:=qQ g;rw[i,g];clear Y i g;refine callsIn_of_wp func249 rfl trivial ?_ rfl;simp only[ntmps249,List.size_toArray,List.length_cons,List.length_nil,Nat.reduceAdd,Nat.reduceSub,Array.replicate_succ,Array.replicate_zero,List.push_toArray,List.append_toArray,List.nil_append,List.cons_append]
 gi_wp2
 gi_loopw [4] (fun f wr=>∃(k:Nat) (a:List (dg s)),k<=s.size/\a.length<=k/\f=.int .i64 k/\bT a++whL s (s.size+1) k=L/\whE s (s.size+1) k=E/\nV s b a=k/\J a wr/\Boxed wr t 9 (.string s))
  (fun f _=>s.size-(intOf f).toNat)
 case atStart=>exact⟨b,[],ae,qI _,rfl,Z.out,X.out,rfl,h0,aa⟩
 case round =>
  obtain⟨k,a,hk,ak,rfl,i,g,G,R,T⟩:=hrel;have m:=qQ fun W=>Uq s (k:Nat) W (by unfold maxLen;omega) (WalkArith.wf_i64 (by omega))
  have hc:=T.cell;cases j:um s k with
  | false =>
    obtain⟨p,q⟩:=YD j;rw[p,List.append_nil]at i;rw[q]at g;have z:=lz s k;rw[j]at z;obtain⟨U,V⟩:=YA z;unfold mr at m;rw[z,U,V]at m;have B:=qQ i;have A:=qQ (G.trans g);clear j p q z U V i g G
    gi_wp2
    refine⟨trivial, ?_⟩;refine(callsIn_wide.2 (m.out _)).mono ?_;rintro e d⟨rfl,y⟩;have u:=Q a wr d none R (Ur y) (fun r e=>by cases e)
    gi_wp2
    refine⟨fun _ h=>(by cases h), ?_⟩
    gi_wp2
    refine bodyPost_ret (results_none rfl _ _ _) rfl ?_;exact⟨⟨_,rfl⟩,.inl ⟨a,⟨B.out,A.out⟩,u⟩⟩
  | true =>
    obtain⟨p,q⟩:=YC hk j;have ag:=ZU j;rw[p]at i;rw[q]at g;have H:=lz s k;rw[j]at H;unfold mr at m;rw[H]at m;have u:∀d,Below wr.1.size wr d->J a d:=fun d hb=>Q a wr d none R (Ur hb) (fun r e=>by cases e)
    have C:=qQ fun d (h:J a d)=>S a ⟨k,j⟩ d h (by omega)
    have K:=qQ (Up a ⟨k,j⟩);have M:=qQ (Un s b a ⟨k,j⟩);unfold QZ at C;simp only at C K M;have B:=qQ i;have A:=qQ g;generalize dK s (k:Nat)=P at*;generalize yU s (k:Nat)=N at*;obtain⟨n1,n2⟩:=ag;clear p q H i g G S
    gi_wp2
    refine⟨trivial, ?_⟩;refine(callsIn_wide.2 (m.out _)).mono ?_;rintro e d⟨rfl,y⟩;obtain⟨fn,al,ah,ai,hy,hR⟩:=C.out d (u d y);have ad:=Zi T y;clear u
    gi_wp2
    refine hR.mono ?_;rintro e W3 (⟨rfl,ab,af⟩|⟨rfl,ac⟩)
    ·gi_wp2
     go_roundw
     case rel =>
      refine⟨N,a++[⟨k,j⟩],n2,by rw[qN];simp;omega,rfl, ?_,A.out,M.out,ab,Eq.trans af ad⟩;rw[K.out,qn];exact B.out
     case measure=>simp[intOf];omega
    ·gi_wp2
     refine bodyPost_ret (results_none rfl _ _ _) rfl ?_;exact⟨⟨_,rfl⟩,.inr ⟨_,trivial,ac⟩⟩
theorem Ro(n:Nat)(q:1<=n)(b d a:Nat)(s:Tw)(r:s.size<=1100000)(p:a<=s.size)(w:World)
  (k:Boxed w b 9 (.string s)) (j:Boxed w d 3 (.int .i64 a)):
  SeqStopsK Fence.wide n prog 249 #[.pointer (some ⟨d,0,none⟩),.pointer (some ⟨b,0,none⟩)] (QZ s) (oM b)
   (fun ys=>bT ys=whL s (s.size+1) a/\nV s a ys=whE s (s.size+1) a) (fun _=>True) (s.size+1) w:=fun l J g W f m _ o i =>
 Ri n q l b d a s r p J g W m o (Zi k f) (Zi j f).cell i
theorem Rw(n:Nat)(s:Tw)(a:Int)(w:World):
  CallsIn Fence.wide n prog 209 #[s,a] w fun e w'=>e=.returned (.func (.func 249) #[] #[.pointer (some ⟨w.1.size+1,0,none⟩),.pointer (some ⟨w.1.size,0,none⟩)])/\w'=(w.alloc (.cells #[s] 9)).alloc (.cells #[a] 3):=by
 refine callsIn_of_wp func209 rfl trivial ?_ rfl;simp only[ntmps209,List.size_toArray,List.length_cons,List.length_nil,Nat.reduceAdd,Nat.reduceSub,Array.replicate_succ,Array.replicate_zero,List.push_toArray,List.append_toArray,List.nil_append,List.cons_append]
 gi_wp2
 go_ret;exact⟨rfl,rfl⟩
end
section
open Go.RowKit Go.Shelf
attribute [local go_sem] Oper.semAt_some
theorem SQ(s:Tw)(a:Int)(w:World)(i:s.size<=1100000)(d:(Lit.int .i64 a).wf=true)(h:¬(0<=a/\a<=s.size)):
  Calls prog 154 #[s,a] w (oY s a w):=by
 have f:wlL s a=[]:=by unfold wlL;rw[qZ h]
 have g:wlE s a=0:=by unfold wlE;rw[qZ h]
 unfold oY;rw[f,g];have b:=qQ fun W=>td s a W (by unfold maxLen;omega) d
 rw[qA h]at b;clear h d;go_enter func154,ntmps154;go_wp2_with fail;refine(b.out _).mono ?_;rintro e j⟨rfl,rfl⟩;go_wp2;exact bodyPost_ret (v:=.tuple #[.slice none 0 0,.int .i64 0]) (by simp[results,Tryz.results154,go_sem]) rfl ⟨_,rfl,qX ⟨rfl,_,_,rfl⟩,((qU _ w).alloc (qK _) _).alloc (by simp) _⟩
theorem Us{w:World}{B base n size:Nat}{e:TypeId}{v:Value}{xs:List Value}(h:w.ownsRow base e size v n xs)(d:B<=base):w.ownsRow B e size v n xs:=by
 refine⟨h.1, ?_⟩;rcases h.2 with b|⟨g,cap,a,i,f,r⟩
 ·exact qX b
 ·exact qY ⟨g,cap,a,i,qR d f,r⟩
theorem Ut{w:World}{base n size:Nat}{e:TypeId}{v:Value}{xs:List Value}(h:w.ownsRow base e size v n xs):∃A c,v=.slice A n c:=by
 rcases h.2 with⟨a,b⟩|⟨g,cap,d,a,_⟩
 ·exact⟨none,0,by rw[a,b]⟩
 ·exact⟨_,cap,a⟩
theorem oN{w:World}{base n size B:Nat}{e:TypeId}{v:Value}{xs:List Value}(h:w.ownsRow base e size v n xs)(b:B<base):v.ownBlock≠some B:=fun a=>by
 have:=Nf h B a;omega
theorem SX(s:Tw)(a:Nat)(w:World)(J:s.size<=1100000)(ag:a<=s.size):
  Calls prog 154 #[s,a] w (oY s (a:Nat) w):=by
 obtain⟨i0,hi,ak,al,am⟩:=info_parts sF;have R:wlL s (a:Nat)=whL s (s.size+1) a:=by unfold wlL;rw[qV (by omega),qm]
 have S:wlE s (a:Nat)=whE s (s.size+1) a:=by unfold wlE;rw[qV (by omega),qm]
 unfold oY;rw[R,S];clear R S;have N:=qQ fun W=>td s (a:Nat) W (by unfold maxLen;omega) (WalkArith.wf_i64 (by omega))
 rw[qB (by omega)]at N;refine(callsIn_wide (n:=8)).1 ?_;refine callsIn_of_wp_marks func154 rfl trivial ?_ rfl;simp only[ntmps154,List.size_toArray,List.length_cons,List.length_nil,Nat.reduceAdd,Nat.reduceSub,Array.replicate_succ,Array.replicate_zero,List.push_toArray,List.append_toArray,List.nil_append,List.cons_append]
 gi_wp2
 refine⟨trivial, ?_⟩;refine(callsIn_wide.2 (N.out _)).mono ?_;rintro e w'⟨rfl,rfl⟩
 gi_wp2
 refine⟨trivial, ?_⟩;refine(Rw _ _ _ _).mono ?_;rintro e w'⟨rfl,rfl⟩
 gi_wp2
 obtain⟨f,j⟩:∃f,((((w.alloc (.cells #[.slice none 0 0] 37)).alloc (.cells #[a] 3)).alloc (.cells #[s] 9)).alloc (.cells #[a] 3))=f:=⟨_,rfl⟩
 have av:f.1.size=w.1.size+4:=by rw[<-j];simp
 have ad:Below w.1.size w f:=by rw[<-j];exact((((qU _ w).alloc (qK _) _).alloc (by simp) _).alloc (by simp;omega) _).alloc (by simp;omega) _
 have b0:Boxed f w.1.size 37 (.slice none 0 0):=by rw[<-j];exact(((Boxed.new w 37 (.slice none 0 0)).alloc _).alloc _).alloc _
 have b1:Boxed f (w.1.size+1) 3 (.int .i64 (a:Nat)):=by
  have h:=Boxed.new (w.alloc (.cells #[.slice none 0 0] 37)) 3 (.int .i64 (a:Nat));rw[World.size_alloc]at h;rw[<-j];exact(h.alloc _).alloc _
 have P:Boxed f (w.1.size+2) 9 (.string s):=by
  have h:=Boxed.new ((w.alloc (.cells #[.slice none 0 0] 37)).alloc (.cells #[a] 3)) 9 (.string s);rw[World.size_alloc,World.size_alloc]at h;rw[<-j];exact h.alloc _
 have b3:Boxed f (w.1.size+3) 3 (.int .i64 (a:Nat)):=by
  have h:=Boxed.new (((w.alloc (.cells #[.slice none 0 0] 37)).alloc (.cells #[a] 3)).alloc (.cells #[s] 9)) 3 (.int .i64 (a:Nat));rw[World.size_alloc,World.size_alloc,World.size_alloc]at h;rw[<-j];exact h
 rw[j];clear j
 refine wpIn_rangeFunc_ownG rfl (by omega) (gf:=249) (lb:=#[.pointer (some ⟨w.1.size+3,0,none⟩),.pointer (some ⟨w.1.size+2,0,none⟩)]) rfl trivial (enters_of func249 (by kernel_rfl) rfl)
  (Ro _ (by omega) (w.1.size+2) (w.1.size+3) a s J ag f P b3) Rt (Re (by omega)) (qU _ _) (fun _=>rfl)
  (fun b W=>(((∃v,Boxed W w.1.size 37 v/\W.ownsRow (w.1.size+4) 3 1 v (bT b).length ((bT b).map tW)/\True)/\Boxed W (w.1.size+1) 3 (.int .i64 (nV s a b:Nat)))/\Boxed W (w.1.size+2) 9 (.string s))/\Below w.1.size f W)
  (fun _ _ _=>False)
  (OwnFrom.and (OwnFrom.and (OwnFrom.and (Own.from (holdsRow_own (w.1.size+4) w.1.size 37 3 1 (fun b=>(bT b).length) (fun b=>(bT b).map tW) (fun _ _=>True)) _) (Own.from (boxed_own (w.1.size+1) 3 (fun b=>.int .i64 (nV s a b:Nat))) _)) (Own.from (boxed_own (w.1.size+2) 9 (fun _=>.string s)) _)) (ownFrom_below (by omega) (by omega)))
  (fun _ _ _ _ _ J _ _=>J)
  ⟨⟨⟨⟨_,b0,World.ownsRow_nil _ _ _ _,trivial⟩,b1⟩,P⟩,qU _ _⟩
  (fun x=>{ tmps:=#[.string s,.int .i64 (a:Nat),undef,undef,.pointer (some ⟨w.1.size,0,none⟩),.pointer (some ⟨w.1.size+1,0,none⟩),.int .i64 (x.1:Int),.int .i64 (yU s (x.1:Nat):Nat),.string s,.int .i64 (a:Nat),.bool true,.bool false,.int .i64 (a:Nat),.string s,.int .i64 (a:Nat),.func (.func 249) #[] #[.pointer (some ⟨w.1.size+1+1+1,0,none⟩),.pointer (some ⟨w.1.size+1+1,0,none⟩)],.int .i64 (x.1:Int),.int .i64 (yU s (x.1:Nat):Nat),undef,undef,undef,undef,undef,undef,undef],defers:=[] })
  ?assign ?body ?done ?stop
 case assign =>
  rintro l x W K k;unfold QZ
  gi_wp2
  exact k
 case body =>
  rintro l b x W⟨⟨⟨⟨v,m,d,_⟩,g⟩,z⟩,i⟩ Y;have U:=m.cell;have V:=g.cell;have X:=g.frozen;have hS:=qQ (Up b x);have o:=qQ (Un s a b x);have hW:w.1.size+4<=W.1.size:=by have:=i.size;omega
  have hl:(bT b).length<s.size+1:=by rw[Rs];exact Y
  generalize bT b=q at*;clear Y
  gi_wp2_with (gi_at_builtin;refine wpListIn_append_own _ rfl _ _ 37 rfl (w.1.size+4) 3 i0 (.int .i64 0) 1 8 Tryz.underlying37 hi ak al am rfl (by decide) _ _ _ rfl (d.alloc _) ⟨W.1.size,0,none⟩ 1 1 [.int .i64 (x.1:Int)] rfl rfl (cell_one_new _ _ _) (by intro u hu;simp at hu;subst hu;rfl) (by unfold maxLen;omega) (by omega) (by simp;omega) ?_;intro v' C y F _;obtain⟨M,Q,rfl⟩:=Ut y;obtain⟨aa,aj,_,ah,af⟩:=m.appended (by decide) (Us d (by omega)) (by omega) (qK _) (Us y (by omega)) F;have ap:=aa.cell;have aq:=aa.frozen;have H:=(g.alloc _).kept F (oN d (by omega)).symm;have ai:=(z.alloc _).kept F (oN d (by omega)).symm;have ar:=H.cell;have au:=H.frozen)
  have Z:=(ai.other (B':=w.1.size) (by omega) (.slice M (q.length+1) Q)).other (B':=w.1.size+1) (by omega) (.int .i64 (yU s (x.1:Nat):Nat));have B:=y.kept (grownBy_setCell' C w.1.size (.slice M (q.length+1) Q)) (.inr (oN y (by omega)));have I:=B.kept (grownBy_setCell' _ (w.1.size+1) (.int .i64 (yU s (x.1:Nat):Nat))) (.inr (oN y (by omega)));refine⟨(ah.trans (KeepsOthers.setCell _ _ _)).from _,Eq.trans Z (Eq.symm z),⟨⟨⟨_,aj.other (by omega) _, ?_,trivial⟩, ?_⟩,Z⟩,i.trans (af.setCell (p:=⟨w.1.size+1,0,none⟩) (by simp) _)⟩
  ·rw[hS.out,qN,List.map_append];exact I
  ·rw[o.out];exact(H.other (B':=w.1.size) (by omega) _).set _
 case done =>
  rintro D ys W hD⟨ac,ab⟩⟨⟨⟨⟨v,m,d,_⟩,g⟩,z⟩,i⟩ k;obtain⟨q,G⟩:∃q,whL s (s.size+1) a=q:=⟨_,rfl⟩
  obtain⟨E,o⟩:∃E,whE s (s.size+1) a=E:=⟨_,rfl⟩
  rw[ac,G]at d;rw[ab,o]at g;have HE:=qQ o;have HL:=qQ G;obtain⟨A,c,rfl⟩:=Ut d;have U:=m.cell;have hf:=m.frozen;have V:=g.cell;have X:=g.frozen;have O:=qQ (qG d (qG i k));clear d i k ac ab G o
  gi_wp2
  gi_region
  gi_wp2
  obtain⟨d,i,k⟩:=O.out;have w0:=(m.set (.slice A q.length c)).other (B':=w.1.size+1) (by omega) (.int .i64 (E:Nat));have C:=(g.other (B':=w.1.size) (by omega) (.slice A q.length c)).set (.int .i64 (E:Nat));have B:=(d.kept (grownBy_setCell' W w.1.size (.slice A q.length c)) (.inr (oN d (by omega)))).kept (grownBy_setCell' _ (w.1.size+1) (.int .i64 (E:Nat))) (.inr (oN d (by omega)));have T:=(KeepsOthers.setCell (W.setCell ⟨w.1.size,0,none⟩ (.slice A q.length c)) ⟨w.1.size+1,0,none⟩ (.int .i64 (E:Nat))).same D _ ((KeepsOthers.setCell W ⟨w.1.size,0,none⟩ (.slice A q.length c)).same D _ k rfl) rfl;have ae:=((((ad.trans i).setCell (p:=⟨w.1.size,0,none⟩) (qK _) (.slice A q.length c)).setCell (p:=⟨w.1.size+1,0,none⟩) (by simp) (.int .i64 (E:Nat)))).drew;have an:Boxed (((W.setCell ⟨w.1.size,0,none⟩ (.slice A q.length c)).setCell ⟨w.1.size+1,0,none⟩ (.int .i64 (E:Nat))).drew) w.1.size 37 (.slice A q.length c):=w0;have ao:Boxed (((W.setCell ⟨w.1.size,0,none⟩ (.slice A q.length c)).setCell ⟨w.1.size+1,0,none⟩ (.int .i64 (E:Nat))).drew) (w.1.size+1) 3 (.int .i64 (E:Nat)):=C;have t:(((W.setCell ⟨w.1.size,0,none⟩ (.slice A q.length c)).setCell ⟨w.1.size+1,0,none⟩ (.int .i64 (E:Nat))).drew).heap[D]? = some (.deferred (some [])):=T;have I:(((W.setCell ⟨w.1.size,0,none⟩ (.slice A q.length c)).setCell ⟨w.1.size+1,0,none⟩ (.int .i64 (E:Nat))).drew).ownsRow (w.1.size+4) 3 1 (.slice A q.length c) q.length (q.map tW):=B;clear w0 C B T k i d O m g z U hf V X;generalize ((W.setCell ⟨w.1.size,0,none⟩ (.slice A q.length c)).setCell ⟨w.1.size+1,0,none⟩ (.int .i64 (E:Nat))).drew=W2 at*;refine⟨by simp,.inl ⟨_,_,rfl,run_takeDeferred t, ?_⟩⟩;have c0:=cell_kept an.cell (grownBy_putObj' _ D (.deferred none)) (fun r e=>by cases e;exact⟨_,t,rfl⟩);have c1:=cell_kept ao.cell (grownBy_putObj' _ D (.deferred none)) (fun r e=>by cases e;exact⟨_,t,rfl⟩);rw[HL.out,HE.out];refine⟨.tuple #[.slice A q.length c,.int .i64 (E:Nat)], ?_,_,rfl,kF.xz (ownsRow_putObj I _ t rfl),ae.trans (belowK_b (w:=w) (qK _) W2 D _ _ (by omega) t rfl rfl)⟩;simp[results,Tryz.f154,go_sem,c0,c1]
 case stop =>
  rintro D c b W _ _ h _;exact h.elim
theorem SZ(s:Tw)(a:Int)(w:World)(b:s.size<=1100000)(d:(Lit.int .i64 a).wf=true):
  Calls prog 154 #[s,a] w (oY s a w):=by
 by_cases h:0<=a/\a<=s.size
 ·obtain⟨k,rfl⟩:∃k:Nat,a=k:=⟨a.toNat,by omega⟩
  exact SX s k w b (by omega)
 ·exact SQ s a w b d h
end
section
open Go.RowKit
theorem Zo(n:Int)(w:World)(q:(Lit.int .i64 n).wf=true):
  Calls prog 152 #[n] w (X3 (.string (hdS n)) w):=by
 by_cases h:0<=n/\n<=199
 ·obtain⟨k,rfl⟩:∃k:Nat,n=k:=⟨n.toNat,by omega⟩
  rw[YI (by omega)];have d:=qQ fun W=>bK k 4 W (by omega) (by omega) (by omega)
  have f:=qQ fun W=>nh (hdT k) W (by rw[YL];decide)
  have l:∀w:World,(Op.stringOp .add ⟨#[99,104,110,107]⟩ (bs (be 4 k))).run prog w=.ok (.string (hdT k)) w:=fun w=>run_string_add_sum (P:=prog) (w:=w) _ _ (by rw[kK,jn];decide)
  have b:decide ((k:Int)<0)=false:=qA (by omega);have j:decide ((200:Int)<=(k:Int))=false:=qA (by omega);have m:(k:Int)<200:=by omega
  have hw:IntKind.u64.wrap (k:Int)=(k:Int):=by rw[IntKind.wrap_u64];omega
  generalize vO (hdT k)=S at*;generalize hdT k=T at*;generalize bs (be 4 k)=B at*;clear h;go_enter func152,ntmps152;go_wp2_with fail;refine(d.out _).mono ?_;rintro e o⟨rfl,g⟩;go_wp2_with fail;refine(f.out _).mono ?_;rintro e p⟨rfl,i⟩;go_wp2;go_ret;exact⟨rfl,bj g i⟩
 ·rw[ZW h];by_cases a:n<0
  ·have b:decide (n<0)=true:=qB a;clear h;go_enter func152,ntmps152;go_wp2;go_ret;exact⟨rfl,qU _ _⟩
  ·have b:decide (n<0)=false:=qA a;have j:decide ((200:Int)<=n)=true:=qB (by omega);clear h;go_enter func152,ntmps152;go_wp2;go_ret;exact⟨rfl,qU _ _⟩
theorem SJ(s:Tw)(n:Int)(w:World)(d:(Lit.int .i64 n).wf=true)(h:¬(0<=n/\n<=199)):
  Calls prog 92 #[s,n] w (pf w):=by
 have a:=qQ fun W=>Zo n W d
 rw[ZW h]at a;unfold pf;clear h;go_enter func92,ntmps92;go_wp2_with fail;refine(a.out _).mono ?_;rintro e f⟨rfl,b⟩;go_wp2;go_ret3;exact⟨_,rfl,qX ⟨rfl,_,_,rfl⟩,b⟩
theorem SK(s H:Tw)(n:Int)(w:World)(g:H.size=12)
  (d:Hid (∀W:World,Calls prog 152 #[n] W (X3 (.string H) W)))
  (a:Hid (∀W:World,Calls prog 153 #[s,H] W (X0 (.bool false) W)))
  (b:Hid (∀W:World,Calls prog 153 #[H,s] W (X0 (.bool false) W))):
  Calls prog 92 #[s,n] w (pf w):=by
 unfold pf;obtain⟨j,k⟩:=ZA g;go_enter func92,ntmps92;go_wp2_with fail;refine(d.out _).mono ?_;rintro e l⟨rfl,f⟩;go_wp2_with fail;refine(a.out _).mono ?_;rintro e i⟨rfl,rfl⟩;go_wp2_with fail;refine(b.out _).mono ?_;rintro e i⟨rfl,rfl⟩;go_wp2;go_ret3;exact⟨_,rfl,qX ⟨rfl,_,_,rfl⟩,f⟩
theorem SV(s H:Tw)(n:Int)(w:World)(g:H.size=12)
  (d:Hid (∀W:World,Calls prog 152 #[n] W (X3 (.string H) W)))
  (a:Hid (∀W:World,Calls prog 153 #[s,H] W (X0 (.bool false) W)))
  (b:Hid (∀W:World,Calls prog 153 #[H,s] W (X0 (.bool true) W))):
  Calls prog 92 #[s,n] w (ZB w):=by
 unfold ZB;obtain⟨j,k⟩:=ZA g;go_enter func92,ntmps92;go_wp2_with fail;refine(d.out _).mono ?_;rintro e l⟨rfl,f⟩;go_wp2_with fail;refine(a.out _).mono ?_;rintro e i⟨rfl,rfl⟩;go_wp2_with fail;refine(b.out _).mono ?_;rintro e i⟨rfl,rfl⟩;go_wp2;go_ret3;exact⟨_,rfl,qX ⟨rfl,_,_,rfl⟩,f⟩
theorem SY(s H:Tw)(n:Int)(w:World)(j:H.size=12)(L:List Int)(E:Nat)
  (d:Hid (∀W:World,Calls prog 152 #[n] W (X3 (.string H) W)))
  (b:Hid (∀W:World,Calls prog 153 #[s,H] W (X0 (.bool true) W)))
  (f:Hid (∀W:World,Calls prog 154 #[s,.int .i64 12] W fun e w'=>∃u,e=.returned (.tuple #[u,E])/\kF w' u L/\Below W.1.size W w')):
  Calls prog 92 #[s,n] w fun e w'=>∃u,e=.returned (.tuple #[u,E,.bool true])/\kF w' u L/\Below w.1.size w w':=by
 obtain⟨l,m⟩:=ZA j;go_enter func92,ntmps92;go_wp2_with fail;refine(d.out _).mono ?_;rintro e o⟨rfl,g⟩;go_wp2_with fail;refine(b.out _).mono ?_;rintro e k⟨rfl,rfl⟩;go_wp2_with fail;refine(f.out _).mono ?_;rintro e k⟨u,rfl,a,i⟩;obtain⟨A,c,rfl⟩:=a.ze;go_wp2;go_ret3;exact⟨_,rfl,a,bj g i⟩
theorem SU(s:Tw)(n:Int)(w:World)(I:s.size<=1100000)(F:(Lit.int .i64 n).wf=true):
  Calls prog 92 #[s,n] w (oU s n w):=by
 have B:scK s n=0->∀e w',pf w e w'->oU s n w e w':=by
  intro b e w'⟨u,p,r,a⟩;obtain⟨f,g,o⟩:=Nm b;exact⟨u,by rw[p,g,o];rfl,by rw[f];exact r,a⟩
 have G:scK s n=1->∀e w',ZB w e w'->oU s n w e w':=by
  intro b e w'⟨u,p,r,a⟩;obtain⟨f,g,o⟩:=Nn b;exact⟨u,by rw[p,g,o];rfl,by rw[f];exact r,a⟩
 by_cases h:0<=n/\n<=199
 ·obtain⟨k,rfl⟩:∃k:Nat,n=k:=⟨n.toNat,by omega⟩
  have d:=ma (n:=k) (by omega);have m:=qQ fun W=>Zo (k:Nat) W F
  have C:s.size<=maxLen:=by unfold maxLen;omega
  have A:(hdS (k:Nat)).size<=maxLen:=by rw[d];decide
  have j:=fun W=>Qp s (hdS (k:Nat)) W C A
  have l:=fun W=>Qp (hdS (k:Nat)) s W A C
  have t:(hdS (k:Nat)).extract 0 12=hdS (k:Nat):=by rw[<-d];exact ByteArray.extract_zero_size
  by_cases i:12<=s.size/\s.extract 0 12=hdS (k:Nat)
  ·have f:cI s (hdS (k:Nat))=true:=(by unfold cI;rw[d];exact qB i);rw[f]at j;have b:scK s (k:Nat)=2:=YN h (by rw[Nat.min_eq_right i.1,i.2,t]) (by omega);obtain⟨J,K,M⟩:=YM b;have v:=qQ fun W=>SZ s 12 W I (by decide)
   unfold oY at v;unfold oU;rw[J,K,M];exact SY s _ _ w d _ _ m (qQ j) v
  ·have f:cI s (hdS (k:Nat))=false:=(by unfold cI;rw[d];exact qA i);rw[f]at j;by_cases a:s.size<=12/\(hdS (k:Nat)).extract 0 s.size=s
   ·have g:cI (hdS (k:Nat)) s=true:=(by unfold cI;rw[d];exact qB a);rw[g]at l
    have H:s.size<12:=by
     rcases qh s.size 12 with c|c
     ·exact c
     ·have y:s.size=12:=(by omega);refine absurd ⟨c, ?_⟩ i;have z:=a.2;rw[y,t]at z;rw[<-y,ByteArray.extract_zero_size];exact z.symm
    have b:scK s (k:Nat)=1:=Ns h (by rw[Nat.min_eq_left (by omega),a.2,ByteArray.extract_zero_size]) H;exact(SV s _ _ w d m (qQ j) (qQ l)).mono (G b)
   ·have g:cI (hdS (k:Nat)) s=false:=(by unfold cI;rw[d];exact qA a);rw[g]at l
    have b:scK s (k:Nat)=0:=Nr h (fun q=>by
     rcases qh s.size 12 with c|c
     ·rw[Nat.min_eq_left (by omega),ByteArray.extract_zero_size]at q;exact a ⟨by omega,q.symm⟩
     ·rw[Nat.min_eq_right c,t]at q;exact i ⟨c,q⟩)
    exact(SK s _ _ w d m (qQ j) (qQ l)).mono (B b)
 ·exact(SJ s n w F h).mono (B (Np h))
theorem SG(size:Int)(p:Tw)(w:World)(f:p.size<=maxLen)(g:(Lit.int .i64 size).wf=true):
  Calls prog 198 #[size,p] w (X0 (.bool (ftS size p)) w):=by
 have i:=bounds_i64 g;unfold maxLen at f;unfold ftS;by_cases a:p.size<=2000
 ·by_cases b:0<=size
  ·by_cases d:size<=4084-(p.size:Int)
   ·rw[qB ⟨a,b,by omega,by omega⟩];go_enter func198,ntmps198;go_wp2;go_ret;exact⟨rfl,rfl⟩
   ·rw[qA (fun q=>d (by omega))];go_enter func198,ntmps198;go_wp2;go_ret;exact⟨rfl,rfl⟩
  ·rw[qA (fun q=>b q.2.1)];go_enter func198,ntmps198;go_wp2;go_ret;exact⟨rfl,rfl⟩
 ·rw[qA (fun q=>a q.1)];go_enter func198,ntmps198;go_wp2;go_ret;exact⟨rfl,rfl⟩
theorem qVt: vR where
 head:=Zo
 scan:=SU
 fits:=SG
 put:=RF
end
section
open Go.RowKit Go.Shelf
theorem SW{b:Func}{t u v x:Tmp}(h:b.results=#[.tmp t,.tmp u,.tmp v,.tmp x])(a:Array Value)(P:Program)(w:World):
  (results b a).run P w=.ok (.tuple #[a.getD t undef,a.getD u undef,a.getD v undef,a.getD x undef]) w:=by
 simp[results,h]
end
section
open Go.RowKit Go.Shelf
section
variable {At:jR}(api:jS At){c:Ctx}{gl gd:Nat}{L L':jq}{D D':jD}{w w':World}{B1 B2 B3:Nat}{nm s:Tw}
include api
theorem SA(h:TSt At c gl gd L D w)(ok:WfP D):Calls prog 77 #[ptr gl] w (vY At c gl gd (err (yW D).1) L (yW D).2):=by
 have f:=qQ (h.xD api (fun F hF=>api.delete jr hF ok.ok rK));have c1:=h.cells.2.1;have i:(⟨#[110,101,119]⟩:Tw)=jr:=rfl;unfold yW;by_cases b:(jg D jr).1=4
 ·rw[qV b];rw[b]at f;generalize jg D jr=r at*;clear h ok b;go_enter func77,ntmps77;go_wp2_with fail;refine f.out.mono ?_;rintro e g⟨rfl,a⟩;have d:=qQ a;clear a;go_wp2;go_ret;exact⟨rfl,d.out⟩
 ·rw[qZ b];have t:(((jg D jr).1:Int) != 4)=true:=by simp;omega
  generalize jg D jr=r at*;clear h ok b;go_enter func77,ntmps77;go_wp2_with fail;refine f.out.mono ?_;rintro e g⟨rfl,a⟩;have d:=qQ a;clear a;go_wp2;go_ret;exact⟨rfl,d.out⟩
variable (nap:jw)
include nap
theorem SB(h:TSt At c gl gd L D w)(ok:WfP D)(n e:Nat)(y:n<=200)(z:s.size<=1048576)(v:e<=1048576)(o:e<=s.size∨s.size<12):Calls prog 127 #[ptr gl,n,s,e] w (vY At c gl gd (err (ff D L n s e).1) (ff D L n s e).2.2 (ff D L n s e).2.1):=by
 have t:=qQ fun W=>nX nap n W (by omega)
 have i:=ln (n:=n) (by omega);have q:=qQ h;unfold ff;by_cases m:s.size<12
 ·rw[qV m];have K:decide ((s.size:Int)<12)=true:=qB (by omega);have J:=qQ fun(W:World) (l:TSt At c gl gd { L with chunks:=n } D W)=>l.xD api (fun F hF=>api.delete (nmC n) hF ok.ok i)
  generalize nmC n=nm at*;generalize jg D nm=r at*;clear h ok y z v o m i;go_enter func127,ntmps127;go_wp2_with fail;refine(t.out _).mono ?_;rintro e C⟨rfl,f⟩;have b:=q.out.below api f;have P:=b.cells.2.2.2.1;have Q:=b.frozen 3;have a:=b.xw api n;have A:=a.cells.2.1;have j:=qQ a;clear f b a;go_wp2_with fail;refine(J.out _ j.out).mono ?_;rintro e G⟨rfl,d⟩;have k:=qQ d;clear d;go_wp2;go_ret;exact⟨rfl,k.out⟩
 rw[qZ m];have o:e<=s.size:=by omega
 have K:decide ((s.size:Int)<12)=false:=qA (by omega);have hFr:=qQ fun(W:World)=>ZC n W (by omega)
 have R:IntKind.i64.wrap ((n:Int)*4096+(e:Int))=(n:Int)*4096+(e:Int):=qy _ (by omega);have B:=qQ (show((4096*n+e:Nat):Int)=(n:Int)*4096+(e:Int) by omega);by_cases p:e<s.size
 ·rw[qV p];have M:decide ((e:Int)<(s.size:Int))=true:=qB (by omega);have N:decide (e<s.size)=true:=qB (by omega);have S:(0:Int)<=(e:Int):=by omega
  have T:(e:Int)<=(s.size:Int):=by omega
  have u:=qQ fun(W:World) (l:TSt At c gl gd { L with endp:=4096*n+e } D W)=>RY api l ok i (s:=s.extract 0 e) (by rw[qk];omega)
  dsimp only[onD];generalize lk D (nmC n) (s.extract 0 e)=r at*;generalize nmC n=nm at*;clear h ok y z v o m i p;go_enter func127,ntmps127;go_wp2_with fail;refine(t.out _).mono ?_;rintro e C⟨rfl,f⟩;have b:=q.out.below api f;have g:=qQ b;clear f b;go_wp2_with fail;refine(hFr.out _).mono ?_;rintro e O⟨rfl,rfl⟩;have H:=g.out.cells.2.2.2.2.1;have I:=g.out.frozen 4;have a:=g.out.xm api (4096*n+e);rw[B.out]at a;have A:=a.cells.2.1;have j:=qQ a;clear a;go_wp2_with fail;refine(u.out _ j.out).mono ?_;rintro e G⟨rfl,d⟩;have k:=qQ d;clear d;go_wp2;go_ret;exact⟨rfl,k.out⟩
 ·rw[qZ p];have M:decide ((e:Int)<(s.size:Int))=false:=qA (by omega);have N:decide (e<s.size)=false:=qA (by omega);have u:=qQ fun(W:World) (l:TSt At c gl gd { L with endp:=4096*n+e } D W)=>l.xD api (fun F hF=>api.sync (nmC n) hF ok.ok i)
  dsimp only[onD];generalize kZ D (nmC n)=r at*;generalize nmC n=nm at*;clear h ok y z v o m i p;go_enter func127,ntmps127;go_wp2_with fail;refine(t.out _).mono ?_;rintro e C⟨rfl,f⟩;have b:=q.out.below api f;have g:=qQ b;clear f b;go_wp2_with fail;refine(hFr.out _).mono ?_;rintro e O⟨rfl,rfl⟩;have H:=g.out.cells.2.2.2.2.1;have I:=g.out.frozen 4;have a:=g.out.xm api (4096*n+e);rw[B.out]at a;have A:=a.cells.2.1;have j:=qQ a;clear a;go_wp2_with fail;refine(u.out _ j.out).mono ?_;rintro e G⟨rfl,d⟩;have k:=qQ d;clear d;go_wp2;go_ret;exact⟨rfl,k.out⟩
end
section
variable {At:jR}{c:Ctx}{gl gd:Nat}{L L':jq}{D D':jD}{w w':World}
theorem TSt.strs(api:jS At)(h:TSt At c gl gd L D w){f:FuncId}{args:Array Value}{l:List Tw}(C:∀F,At w c.base gd F D->Calls prog f args w (Kp At c.base gd F w l D')):
  Calls prog f args w (fun e w'=>∃v,e=.returned v/\uR w' v l/\(∀b,v.ownBlock=some b->b≠gl)/\TSt At c gl gd L D' w'):=by
 obtain⟨F,y,g,n,o,p,z,A⟩:=h;refine(C F y).mono ?_;rintro e w'⟨r,v,t,B,G,u,d,a⟩;refine⟨v,t,B,fun b i e=>(by have:=(G b i).1;have:=g.lt;omega),r,u,g.xC a n,fun j=>?_,fun x m=>?_,p.trans a (fun x m=>?_),qR z a.size,fun b i=>?_⟩
 ·rcases d gl j with k|k
  ·exact n k
  ·have:=g.lt;omega
 ·rcases d x m with k|k
  ·exact o x k
  ·exact qY (by have:=p.size;omega)
 ·rcases o x m with k|k
  ·exact qX (qF _ k)
  ·exact qY k
 ·obtain⟨H,I,q,J,K⟩:=A b i;refine⟨H,I,fun j=>?_,J,(a.block b (by omega) q).trans K⟩;rcases d b j with k|k
  ·exact q k
  ·omega
theorem Ua{l:List Tw}{s:Tw}{c:Nat}(h:isC s=false):yz (s::l) c=yz l c:=by
 unfold yz;rw[qZ (by simp[h])];split<;>rfl
theorem SC{l:List Tw}{s:Tw}{c:Nat}(h:isC s=true)(a:npN s≠c∨200<=npN s):yz (s::l) c=(63,c):=by
 unfold yz;rw[qV h,qV a]
theorem SD{l:List Tw}{s:Tw}{c:Nat}(h:isC s=true)(a:¬(npN s≠c∨200<=npN s)):yz (s::l) c=yz l (c+1):=by
 unfold yz;rw[qV h,qZ a];split<;>rfl
end
theorem SE{w:World}{v:Value}{l:List Tw}(h:uR w v l):∃A off cap,v=.slice A l.length cap/\l.length<=maxLen/\∀i x,l[i]? = some x->∃b,A=some ⟨b,off,none⟩/\w.cell? ⟨b,off+i,none⟩=some (.string x):=by
 rcases h with⟨rfl,a,c,rfl⟩|⟨b,off,cap,d,j,k,m,f⟩
 ·exact⟨a,0,c,rfl,qI _,fun i x h=>by simp at h⟩
 ·exact⟨some ⟨b,off,none⟩,off,cap,d,by omega,fun i x g=>⟨b,rfl,f i x g⟩⟩
theorem SF(s:Tw):npN s<=999999:=by
 cases h:vq s
 ·rw[(pT h).2];omega
 ·exact(VO h).1
theorem SH(s:Tw):npK s<256:=by
 cases h:vq s
 ·rw[(pT h).1];omega
 ·rcases(VO h).2 with h|h|h<;>omega
section
variable {At:jR}(api:jS At)(nap:jw){c:Ctx}{gl gd:Nat}{L L':jq}{D D':jD}{w w':World}
include api nap
theorem SI(h:TSt At c gl gd L D w)(ok:WfP D)(V:L.chunks=0)(ae:∀f∈D.l,f.name.size<=maxLen):Calls prog 78 #[ptr gl] w (vY At c gl gd (err (ur D L).1) (ur D L).2.2 (ur D L).2.1):=by
 have hS:=qQ (h.strs api (fun F hF=>api.names hF ok.ok));have c1:=h.cells.2.1;have ac:(D.l.map jI.name).length<=400:=by rw[qz];exact ok.many
 have af:∀x∈D.l.map jI.name,x.size<=maxLen:=by
  intro x j;obtain⟨f,hf,rfl⟩:=qP.1 j;exact ae f hf
 unfold ur;generalize D.l.map jI.name=d at*;have HL:=qQ ac;have HZ:=qQ af;have H0:=qQ V;clear h ok V ae ac af;go_enter func78,ntmps78;go_wp2_with fail;refine hS.out.mono ?_;rintro e w1⟨v,rfl,hs,hv,X⟩;obtain⟨A,off,cp,rfl,ag,Z⟩:=SE hs;have HC:=qQ Z;have HV:=qQ hv;have H1:=qQ X;clear hs ag Z hv X;go_wp2;go_loopw [14] (fun i wr=>∃k g:Nat,k<=d.length/\i=.int .i64 k/\g<=k/\yz (d.drop k) g=yz d L.chunks/\TSt At c gl gd { L with chunks:=g } D wr/\jH [gl] w1 wr) (fun i _=>d.length-(intOf i).toNat)
 case atStart=>exact⟨0,L.chunks,qI _,rfl,by rw[H0.out];exact qK _,rfl,H1.out,jH.refl _ _⟩
 case round =>
  obtain⟨k,g,hk,rfl,aa,ab,Y,ht⟩:=hrel;have y:=qQ Y;have P:=qQ ht;have m:=qQ ab;have O:=qQ aa;clear Y ht ab aa;by_cases t:k<d.length
  ·have j:d[k]? = some d[k]:=qD t;have G:d.drop k=d[k]::d.drop (k+1):=xJ t;obtain⟨b,rfl,z⟩:=HC.out k _ j;have H:=HZ.out _ (List.getElem_mem t);generalize d[k]=x at*;have a:b≠gl:=HV.out b rfl;have ah:=(P.out.cell (World.block_lt_of_cell? w1 _ z) (by simpa using a)).trans z;have u:=qQ fun(W:World)=>nap.parse x W H
   have l1:(k:Int)<(d.length:Int):=(by omega);have K:=HL.out;have N:=SF x;have M:=SH x;have c3:=y.out.cells.2.2.2.1;have ai:IntKind.i64.wrap ((g:Int)+1)=(g:Int)+1:=qy _ (by have:=O.out;omega);have aj:IntKind.i64.wrap ((k:Int)+1)=(k:Int)+1:=qy _ (by omega);rw[G]at m;have C:=qQ t;cases r:vq x
   case false =>
    have o:isC x=false:=(by unfold isC;rw[r];rfl);rw[Ua o]at m;rw[r]at u;generalize npK x=kk at*;generalize npN x=S at*;generalize R:d.length=q at*;clear j G z H a K N M r o t;go_wp2_with fail;refine(u.out _).mono ?_;rintro e T⟨rfl,a⟩;have n:=qQ (y.out.below api a);have I:=qQ (P.out.trans (jH.xA a) (fun x j=>by cases j));clear a;go_wp2;exact⟨⟨k+1,g,by have:=C.out;omega,by go_num,by have:=O.out;omega,m.out,n.out,I.out⟩,by simp[intOf];have:=C.out;omega⟩
   rw[r]at u;by_cases B:npK x=99
   case neg =>
    have o:isC x=false:=(by unfold isC;rw[r];simp[B]);rw[Ua o]at m;have t1:((npK x:Int) != 99)=true:=(by simp;omega);generalize npK x=kk at*;generalize npN x=S at*;generalize R:d.length=q at*;clear j G z H a K N M r o t B;go_wp2_with fail;refine(u.out _).mono ?_;rintro e T⟨rfl,a⟩;have n:=qQ (y.out.below api a);have I:=qQ (P.out.trans (jH.xA a) (fun x j=>by cases j));clear a;go_wp2;exact⟨⟨k+1,g,by have:=C.out;omega,by go_num,by have:=O.out;omega,m.out,n.out,I.out⟩,by simp[intOf];have:=C.out;omega⟩
   have o:isC x=true:=(by unfold isC;rw[r,B];rfl);rw[B]at u;by_cases J:npN x≠g∨200<=npN x
   ·rw[SC o J]at m;by_cases ad:npN x=g
    ·have t2:((npN x:Int) != (g:Int))=false:=(by simp;omega);have t3:decide ((200:Int)<=(npN x:Int))=true:=qB (by omega);generalize npN x=S at*;generalize R:d.length=q at*;clear j G z H a K N M r o t B J ad;go_wp2_with fail;refine(u.out _).mono ?_;rintro e T⟨rfl,a⟩;have n:=qQ (y.out.below api a);have U:=n.out.cells.2.2.2.1;clear a;go_wp2;go_ret;rw[<-m.out];exact⟨rfl,n.out⟩
    ·have t2:((npN x:Int) != (g:Int))=true:=(by simp;omega);generalize npN x=S at*;generalize R:d.length=q at*;clear j G z H a K N M r o t B J ad;go_wp2_with fail;refine(u.out _).mono ?_;rintro e T⟨rfl,a⟩;have n:=qQ (y.out.below api a);have U:=n.out.cells.2.2.2.1;clear a;go_wp2;go_ret;rw[<-m.out];exact⟨rfl,n.out⟩
   ·rw[SD o J]at m;have t2:((npN x:Int) != (g:Int))=false:=(by simp;omega);have t3:decide ((200:Int)<=(npN x:Int))=false:=qA (by omega);generalize npN x=S at*;generalize R:d.length=q at*;clear j G z H a K N M r o t B J;go_wp2_with fail;refine(u.out _).mono ?_;rintro e T⟨rfl,a⟩;have Q:=y.out.below api a;have U:=Q.cells.2.2.2.1;have f3:=Q.frozen 3;have n:=qQ (Q.xw api (g+1));have I:=qQ ((P.out.trans (jH.xA a) (fun x j=>by cases j)).setCell (p:=⟨gl,3,none⟩) (qX (qH.2 rfl)) (.int .i64 ((g+1:Nat):Int)));clear a Q;go_wp2;exact⟨⟨k+1,g+1,by have:=C.out;omega,by go_num,by have:=O.out;omega,m.out,n.out,I.out⟩,by simp[intOf];have:=C.out;omega⟩
  ·obtain rfl:k=d.length:=(by omega);rw[List.drop_length]at m;have l1:decide ((d.length:Int)<(d.length:Int))=false:=qA (by omega);generalize d.length=q at*;go_wp2;go_ret;rw[<-m.out];exact⟨rfl,y.out⟩
end
theorem Ue(s:Tw):∀(n k:Nat),k<=s.size->whE s n k<=s.size
 | 0,k,h=>h
 | n+1,k,h=>by
   unfold whE;split
   ·exact Ue s n _ (Nc _ _)
   ·exact h
theorem SL(s:Tw)(n:Int):scE s n<=s.size:=by
 unfold scE wlE;split
 ·split
  ·rename_i h;exact Ue s _ _ (by omega)
  ·exact qI _
 ·exact qI _
theorem SM{k n:Nat}{D:jD}{L:jq}(h:(rdC D (nmC n)).2.1≠0):uq (k+1) n D L=((rdC D (nmC n)).2.1,(rdC D (nmC n)).2.2,L):=by unfold uq;rw[qV h]
theorem SN{k n:Nat}{D:jD}{L:jq}(h:(rdC D (nmC n)).2.1=0)(a:cV (rdC D (nmC n)).1 (n:Nat)=false):uq (k+1) n D L=(63,(rdC D (nmC n)).2.2,L):=by
 unfold uq;rw[qZ (by simp[h]),qV a]
theorem SO{n:Nat}{D:jD}{L:jq}(h:(rdC D (nmC n)).2.1=0)(a:cV (rdC D (nmC n)).1 (n:Nat)=true):uq (0+1) n D L=ff (rdC D (nmC n)).2.2 L n (rdC D (nmC n)).1 (scE (rdC D (nmC n)).1 (n:Nat)):=by
 unfold uq;rw[qZ (by simp[h]),qZ (by simp[a]),qV rfl]
theorem Ui{k n:Nat}{D:jD}{L:jq}(d:k≠0)(h:(rdC D (nmC n)).2.1=0)(a:cV (rdC D (nmC n)).1 (n:Nat)=true)(b:(rdC D (nmC n)).1.size<12∨scE (rdC D (nmC n)).1 (n:Nat)<(rdC D (nmC n)).1.size):uq (k+1) n D L=(63,(rdC D (nmC n)).2.2,L):=by
 unfold uq;rw[qZ (by simp[h]),qZ (by simp[a]),qZ d,qV b]
theorem SR{k n:Nat}{D:jD}{L:jq}(d:k≠0)(h:(rdC D (nmC n)).2.1=0)(a:cV (rdC D (nmC n)).1 (n:Nat)=true)(b:¬((rdC D (nmC n)).1.size<12∨scE (rdC D (nmC n)).1 (n:Nat)<(rdC D (nmC n)).1.size)):uq (k+1) n D L=uq k (n+1) (rdC D (nmC n)).2.2 { L with endp:=4096*n+scE (rdC D (nmC n)).1 (n:Nat) }:=by
 rw[uq,qZ (by simp[h]),qZ (by simp[a]),qZ d,qZ b]
section
variable {At:jR}(api:jS At)(nap:jw)(cap:vR){c:Ctx}{gl gd:Nat}{L L':jq}{D D':jD}{w w':World}
include api nap cap
theorem SS(h:TSt At c gl gd L D w)(ok:WfP D)(T:D.count<=1000000000)(hc:L.chunks<=200):Calls prog 79 #[ptr gl] w (vY At c gl gd (err (fG D L).1) (fG D L).2.2 (fG D L).2.1):=by
 have H0:=qQ h;have c3:=h.cells.2.2.2.1;unfold fG;have OK:=qQ ok;have ah:=qQ T;have HC:=qQ hc;obtain⟨n,hn⟩:∃n:Int,(L.chunks:Int)=n:=⟨_,rfl⟩
 rw[hn]at c3;have M:=qQ hn;clear h ok T hc hn;go_enter func79,ntmps79;go_wp2;go_loopw [13] (fun i wr=>∃(k:Nat) (a:jD) (g:jq),i=.int .i64 k/\TSt At c gl gd g a wr/\WfP a/\a.count<=1000000000+k/\g.chunks=L.chunks/\uq (L.chunks-k) k a g=uq L.chunks 0 D L/\k<=L.chunks) (fun i _=>L.chunks-(intOf i).toNat)
 case atStart=>exact⟨0,D,L,rfl,H0.out,OK.out,by have:=ah.out;omega,rfl,rfl,qI _⟩
 case round =>
  obtain⟨k,a,g,rfl,hT,ag,T,ad,hk,ac⟩:=hrel;have HT:=qQ hT;have B:=qQ hk;have ab:=qQ ag;have ae:=qQ T;have ai:=qQ ad;have P:=qQ (show(g.chunks:Int)=n by rw[ad];exact M.out);have aj:=qQ ac;clear hT hk ag T ad;by_cases F:k<L.chunks
  ·have N:=HC.out;have l1:decide ((k:Int)<n)=true:=qB (by have:=M.out;omega);have am:IntKind.i64.wrap ((k:Int)+1)=(k:Int)+1:=qy _ (by omega);have al:IntKind.i64.wrap (n-1)=n-1:=qy _ (by have:=M.out;omega);have H:=qQ (Pf api nap HT.out ab.out (by have:=ae.out;omega) k (by omega));have I:=Pc (n:=nmC k) ab.out;have G:=qQ (U1 ab.out (nmC k));have K:=qQ (Pd a (nmC k));have p:L.chunks-k=(L.chunks-(k+1))+1:=(by omega);have af:=qQ F;clear ac;by_cases o:(rdC a (nmC k)).2.1=0
   case neg =>
    have d:=qQ (SM (k:=L.chunks-(k+1)) (L:=g) o);rw[<-p]at d;have m:=qQ (d.out.symm.trans B.out);have t1:(((rdC a (nmC k)).2.1:Int) != 0)=true:=(by simp;omega);generalize rdC a (nmC k)=R at*;obtain⟨s,y,J⟩:=R;dsimp only at*;clear F N I p o d G K;go_wp2_with fail;refine H.out.mono ?_;rintro e U⟨rfl,f⟩;have t:=qQ f;clear f;go_wp2;go_ret;rw[<-m.out];exact⟨rfl,t.out⟩
   have C:=qQ fun(W:World)=>cap.scan (rdC a (nmC k)).1 (k:Nat) W (by omega) (hQ (by omega))
   unfold oU at C;have O:=SL (rdC a (nmC k)).1 (k:Nat);rw[o]at H;cases r:cV (rdC a (nmC k)).1 (k:Nat)
   case false =>
    have d:=qQ (SN (k:=L.chunks-(k+1)) (L:=g) o r);rw[<-p]at d;have m:=qQ (d.out.symm.trans B.out);rw[r]at C;generalize rdC a (nmC k)=R at*;obtain⟨s,y,J⟩:=R;dsimp only at*;generalize scE s (k:Nat)=Q at*;generalize scL s (k:Nat)=pl at*;clear F N I p o d G K r O;go_wp2_with fail;refine H.out.mono ?_;rintro e U⟨rfl,f⟩;have t:=qQ f;clear f;go_wp2_with fail;refine(C.out _).mono ?_;rintro e w3⟨u,rfl,l,j⟩;obtain⟨A,off,V,rfl,-,-⟩:=l.cell;have b:=qQ (t.out.below api j);have v:=b.out.cells.2.2.2.1;rw[P.out]at v;have Y:=b.out.frozen 4;have X:=b.out.cells.2.2.2.2.1;clear j l;go_wp2;go_ret;rw[<-m.out];exact⟨rfl,b.out⟩
   rw[r]at C;by_cases aa:k+1=L.chunks
   ·have z:L.chunks-(k+1)=0:=(by omega);have d:=qQ (SO (L:=g) o r);rw[p,z]at B;have m:=qQ (d.out.symm.trans B.out);have t2:((k:Int)==n-1)=true:=(by simp;have:=M.out;omega);have hM:=qQ fun(W:World) (hT:TSt At c gl gd g (rdC a (nmC k)).2.2 W)=>SB api nap hT G.out k (scE (rdC a (nmC k)).1 (k:Nat)) (s:=(rdC a (nmC k)).1) (by omega) I (by omega) (qX O)
    generalize ff (rdC a (nmC k)).2.2 g k (rdC a (nmC k)).1 (scE (rdC a (nmC k)).1 (k:Nat))=mm at*;generalize rdC a (nmC k)=R at*;obtain⟨s,y,J⟩:=R;dsimp only at*;generalize scE s (k:Nat)=Q at*;generalize scL s (k:Nat)=pl at*;clear F N I p o d G K r O aa z;go_wp2_with fail;refine H.out.mono ?_;rintro e U⟨rfl,f⟩;have t:=qQ f;clear f;go_wp2_with fail;refine(C.out _).mono ?_;rintro e w3⟨u,rfl,l,j⟩;obtain⟨A,off,V,rfl,-,-⟩:=l.cell;have b:=qQ (t.out.below api j);have v:=b.out.cells.2.2.2.1;rw[P.out]at v;have Y:=b.out.frozen 4;have X:=b.out.cells.2.2.2.2.1;clear j l;go_wp2_with fail;refine(hM.out _ b.out).mono ?_;rintro e w4⟨rfl,h4⟩;have H4:=qQ h4;clear h4;go_wp2;go_ret;rw[<-m.out];exact⟨rfl,H4.out⟩
   have z:L.chunks-(k+1)≠0:=(by omega);have t2:((k:Int)==n-1)=false:=(by simp;have:=M.out;omega);by_cases Z:(rdC a (nmC k)).1.size<12
   ·have d:=qQ (Ui (L:=g) z o r (qX Z));rw[<-p]at d;have m:=qQ (d.out.symm.trans B.out);have t3:decide (((rdC a (nmC k)).1.size:Int)<12)=true:=qB (by omega);generalize rdC a (nmC k)=R at*;obtain⟨s,y,J⟩:=R;dsimp only at*;generalize scE s (k:Nat)=Q at*;generalize scL s (k:Nat)=pl at*;clear F N I p o d G K r O aa z Z;go_wp2_with fail;refine H.out.mono ?_;rintro e U⟨rfl,f⟩;have t:=qQ f;clear f;go_wp2_with fail;refine(C.out _).mono ?_;rintro e w3⟨u,rfl,l,j⟩;obtain⟨A,off,V,rfl,-,-⟩:=l.cell;have b:=qQ (t.out.below api j);have v:=b.out.cells.2.2.2.1;rw[P.out]at v;have Y:=b.out.frozen 4;have X:=b.out.cells.2.2.2.2.1;clear j l;go_wp2;go_ret;rw[<-m.out];exact⟨rfl,b.out⟩
   have t3:decide (((rdC a (nmC k)).1.size:Int)<12)=false:=qA (by omega);by_cases S:scE (rdC a (nmC k)).1 (k:Nat)<(rdC a (nmC k)).1.size
   ·have d:=qQ (Ui (L:=g) z o r (qY S));rw[<-p]at d;have m:=qQ (d.out.symm.trans B.out);have t4:decide (scE (rdC a (nmC k)).1 (k:Nat)<(rdC a (nmC k)).1.size)=true:=qB S;have t5:decide ((scE (rdC a (nmC k)).1 (k:Nat):Int)<((rdC a (nmC k)).1.size:Int))=true:=qB (by omega);generalize rdC a (nmC k)=R at*;obtain⟨s,y,J⟩:=R;dsimp only at*;generalize scE s (k:Nat)=Q at*;generalize scL s (k:Nat)=pl at*;clear F N I p o d G K r O aa z Z S;go_wp2_with fail;refine H.out.mono ?_;rintro e U⟨rfl,f⟩;have t:=qQ f;clear f;go_wp2_with fail;refine(C.out _).mono ?_;rintro e w3⟨u,rfl,l,j⟩;obtain⟨A,off,V,rfl,-,-⟩:=l.cell;have b:=qQ (t.out.below api j);have v:=b.out.cells.2.2.2.1;rw[P.out]at v;have Y:=b.out.frozen 4;have X:=b.out.cells.2.2.2.2.1;clear j l;go_wp2;go_ret;rw[<-m.out];exact⟨rfl,b.out⟩
   have t4:decide (scE (rdC a (nmC k)).1 (k:Nat)<(rdC a (nmC k)).1.size)=false:=qA S;have t5:decide ((scE (rdC a (nmC k)).1 (k:Nat):Int)<((rdC a (nmC k)).1.size:Int))=false:=qA (by omega);have d:=qQ (SR (L:=g) z o r (by omega));rw[<-p]at d;have m:=qQ (d.out.symm.trans B.out);have hFr:=qQ fun(W:World)=>ZC k W (by omega)
   have ak:IntKind.i64.wrap ((k:Int)*4096+(scE (rdC a (nmC k)).1 (k:Nat):Nat))=(k:Int)*4096+(scE (rdC a (nmC k)).1 (k:Nat):Nat):=qy _ (by omega);have eE:=qQ (show((4096*k+scE (rdC a (nmC k)).1 (k:Nat):Nat):Int)=(k:Int)*4096+(scE (rdC a (nmC k)).1 (k:Nat):Nat) by omega);generalize rdC a (nmC k)=R at*;obtain⟨s,y,J⟩:=R;dsimp only at*;generalize scE s (k:Nat)=Q at*;generalize scL s (k:Nat)=pl at*;clear F N I p o d r O aa z Z S;go_wp2_with fail;refine H.out.mono ?_;rintro e U⟨rfl,f⟩;have t:=qQ f;clear f;go_wp2_with fail;refine(C.out _).mono ?_;rintro e w3⟨u,rfl,l,j⟩;obtain⟨A,off,V,rfl,-,-⟩:=l.cell;have b:=qQ (t.out.below api j);have v:=b.out.cells.2.2.2.1;rw[P.out]at v;have Y:=b.out.frozen 4;have X:=b.out.cells.2.2.2.2.1;clear j l;go_wp2_with fail;refine(hFr.out _).mono ?_;rintro e w4⟨rfl,rfl⟩;have h5:=b.out.xm api (4096*k+Q);rw[eE.out]at h5;have H5:=qQ h5;clear h5;go_wp2;exact⟨⟨k+1,J,_,by go_num,H5.out,G.out,by have:=ae.out;have:=K.out;omega,ai.out,m.out,by have:=af.out;omega⟩,by simp[intOf];have:=af.out;omega⟩
  ·obtain rfl:k=L.chunks:=(by omega);have l1:decide ((L.chunks:Int)<n)=false:=qA (by have:=M.out;omega);have e0:L.chunks-L.chunks=0:=Nat.sub_self _;have m:=qQ (show(0,a,g)=uq L.chunks 0 D L from by rw[<-B.out,e0];rfl);clear F ac e0;generalize (L.chunks:Int)=q at*;go_wp2;go_ret;rw[<-m.out];exact⟨rfl,HT.out⟩
end
def DSt(At:jR)(c:Ctx)(gd:Nat)(D:jD)(w:World):Prop :=
 ∃F,At w c.base gd F D/\(∀x∈F,x∈c.F0∨c.w0.1.size<=x)/\jH c.F0 c.w0 w/\c.wG.1.size<=w.1.size/\∀b∈c.G,c.w0.1.size<=b/\b<c.wG.1.size/\b ∉ F/\w.heap[b]? = c.wG.heap[b]?
theorem Zw: ∀(l:List Tw) (c:Nat),c<=200->(yz l c).2<=200
 | [],c,h=>h
 | s::r,c,h=>by
   unfold yz;split
   ·split
    ·exact h
    ·exact Zw r (c+1) (by omega)
   ·exact Zw r c h
theorem Uo{D:jD}(h:WfP D):WfP (yW D).2:=by
 unfold yW;split<;>exact dO h _
section
variable {At:jR}{c:Ctx}{gl gd:Nat}{L L':jq}{D D':jD}{w w':World}
theorem TSt.drop(h:TSt At c gl gd L D w)(l:c.w0.1.size<=gl):DSt At c gd D w:=by
 obtain⟨F,d,q,r,f,g,i,j⟩:=h;refine⟨F,d,f,g.more (fun x a=>?_),i,fun b k=>?_⟩
 ·rcases qL.1 a with rfl|a
  ·exact qY l
  ·exact qX a
 ·obtain⟨m,n,o,t,p⟩:=j b k;exact⟨m,n,o,p⟩
theorem DSt.log(api:jS At)(h:DSt At c gd D w)(L:jq):TSt At { c with m:=.pointer none } w.1.size gd L D (w.alloc (.cells (gW (.pointer none) gd L) 130)):=by
 obtain⟨F,i,j,k,d,l⟩:=h;have a:jH [] w (w.alloc (.cells (gW (.pointer none) gd L) 130)):=(jH.refl [] w).alloc _;have o:=api.low i;refine⟨F,api.xC i a (fun _ _=>by simp),jF.new w _ _,fun p=>(by have:=(o _ p).2;omega),j,(k.trans a (fun x f=>by cases f)).more (fun x f=>qX (qF _ f)),qR d a.size,fun b n=>?_⟩;obtain⟨q,g,r,t⟩:=l b n;exact⟨q,g,r,Nat.ne_of_lt (qS g d),(a.block b (qS g d) (by simp)).trans t⟩
theorem TSt.names(api:jS At)(h:TSt At c gl gd L D w):∀f∈D.l,f.name.size<=maxLen:=by
 obtain⟨F,a,_⟩:=h;intro f b;have:=(api.xH a).2 f b;unfold ks at this;simp only[Bool.and_eq_true,decide_eq_true_eq]at this;unfold maxLen;omega
theorem TSt.jZ(api:jS At)(h:TSt At c gl gd L D w)(v:Value):TSt At { c with m:=v } gl gd L D (w.setCell ⟨gl,0,none⟩ v):=by
 obtain⟨F,i,j,f,k,l,n,o⟩:=h;have a:jH [gl] w (w.setCell ⟨gl,0,none⟩ v):=(jH.refl [gl] w).setCell (p:=⟨gl,0,none⟩) (qX (qH.2 rfl)) _;refine⟨F,api.xC i a (fun x d r=>f (by rw[<-qH.1 r];exact d)),j.put 0 v,f,k,l.trans a (fun x d=>qX (by rw[qH.1 d];exact qC)),qR n a.size,fun b q=>?_⟩;obtain⟨t,u,y,g,z⟩:=o b q;exact⟨t,u,y,g,(a.block b (by omega) (by simpa using g)).trans z⟩
end
def Uw(At:jR)(c:Ctx)(gd:Nat)(w:World)(r:Nat × jD × jq)(e:Ending)(w':World):Prop :=
 (r.1=0/\∃gl,e=.returned (.tuple #[ptr gl,.int .i64 0])/\w.1.size<=gl/\TSt At { c with m:=ptr gl } gl gd { r.2.2 with sure:=r.2.2.endp } r.2.1 w') ∨
 (r.1≠0/\e=.returned (.tuple #[.pointer none,err r.1])/\DSt At c gd r.2.1 w')
section
variable {At:jR}(api:jS At)(nap:jw)(cap:vR){c:Ctx}{gl gd:Nat}{L L':jq}{D D':jD}{w w':World}
include api nap cap
theorem S1{B4:Nat}(h:TSt At c gl gd ⟨D.xB,0,0,0⟩ D w)(ok:WfP D)(r:D.count<=1000000000)
  (o:B4∈c.G) (p:TypeId) (m:jF c.wG B4 p #[.func (.func 77) #[ptr gl] #[],.func (.func 78) #[ptr gl] #[],.func (.func 79) #[ptr gl] #[]]):
  Calls prog 76 #[.slice (some ⟨B4,0,none⟩) 3 3] w (vY At c gl gd (err (gz D).1) (gz D).2.2 (gz D).2.1):=by
 have j:WfP (yW D).2:=Uo ok
 have l:(yW D).2.count<=1000000000:=by
  have:(yW D).2.count=D.count:=by
   unfold yW
   have:(jg D jr).2.count=D.count:=by
    unfold jg yI;split
    ·rfl
    ·split
     ·split<;>rfl
     ·rfl
   split<;>exact this
  omega
 have H:=Zf (b:=B4) (n:=3) (by omega) (uj (yW D).1 (ur (yW D).2 ⟨D.xB,0,0,0⟩).1 (fG (ur (yW D).2 ⟨D.xB,0,0,0⟩).2.1 (ur (yW D).2 ⟨D.xB,0,0,0⟩).2.2).1 0)
  (fun k W=>TSt At c gl gd (uj ⟨D.xB,0,0,0⟩ ⟨D.xB,0,0,0⟩ (ur (yW D).2 ⟨D.xB,0,0,0⟩).2.2 (fG (ur (yW D).2 ⟨D.xB,0,0,0⟩).2.1 (ur (yW D).2 ⟨D.xB,0,0,0⟩).2.2).2.2 k) (uj D (yW D).2 (ur (yW D).2 ⟨D.xB,0,0,0⟩).2.1 (fG (ur (yW D).2 ⟨D.xB,0,0,0⟩).2.1 (ur (yW D).2 ⟨D.xB,0,0,0⟩).2.2).2.1 k) W)
  (uj 77 78 79 0) (uj #[ptr gl] #[ptr gl] #[ptr gl] #[]) (uj #[] #[] #[] #[])
  (fun k d=>by
   match k,d with
   | 0,_=>exact enters_of func77 (by kernel_rfl) rfl
   | 1,_=>exact enters_of func78 (by kernel_rfl) rfl
   | 2,_=>exact enters_of func79 (by kernel_rfl) rfl)
  (fun k W d a=>by
   have q:=(a.xW o m).cell k
   match k,d with
   | 0,_=>exact q
   | 1,_=>exact q
   | 2,_=>exact q)
  (fun k W d a=>by
   match k,d with
   | 0,_=>exact SA api a ok
   | 1,_=>exact SI api nap a j rfl (a.names api)
   | 2,_=>exact SS api nap cap a j l (Zw _ 0 (by omega))) w h
 refine H.mono ?_;rintro e w'⟨rfl,a⟩;unfold gz onD;by_cases f:(yW D).1=0
 ·by_cases g:(ur (yW D).2 ⟨D.xB,0,0,0⟩).1=0
  ·by_cases i:(fG (ur (yW D).2 ⟨D.xB,0,0,0⟩).2.1 (ur (yW D).2 ⟨D.xB,0,0,0⟩).2.2).1=0
   ·simp[stR,uj,yo,f,g,i]at a ⊢;exact⟨by simp,a⟩
   ·simp[stR,uj,yo,f,g,i]at a ⊢;exact⟨rfl,a⟩
  ·simp[stR,uj,yo,f,g]at a ⊢;exact⟨rfl,a⟩
 ·simp[stR,uj,yo,f]at a ⊢;exact⟨rfl,a⟩
theorem S3(h:DSt At c gd D w)(ok:WfP D)(o:D.count<=1000000000):Calls prog 38 #[ptr gd] w (Uw At c gd w (gz D)):=by
 have z:=qQ (show Calls prog 75 #[ptr gd] w (X0 (.int .i64 (D.xB:Nat)) w) from api.zi (Classical.choose_spec h).1);have d:=h.log api ⟨D.xB,0,0,0⟩;have f:=d.keep;generalize A:w.1.size=gl at*;have l:gW (.pointer none) gd ⟨D.xB,0,0,0⟩=#[.pointer none,ptr gd,.int .i64 (D.xB:Nat),.int .i64 0,.int .i64 0,.int .i64 0]:=rfl;rw[l]at d f;generalize U:w.alloc (.cells #[.pointer none,ptr gd,D.xB,.int .i64 0,.int .i64 0,.int .i64 0] 130)=G at*;have m:=d.box api (.cells #[.func (.func 77) #[ptr gl] #[],.func (.func 78) #[ptr gl] #[],.func (.func 79) #[ptr gl] #[]] 56);have q:=jF.new G 56 #[.func (.func 77) #[ptr gl] #[],.func (.func 78) #[ptr gl] #[],.func (.func 79) #[ptr gl] #[]];have f:=f.alloc (.cells #[.func (.func 77) #[ptr gl] #[],.func (.func 78) #[ptr gl] #[],.func (.func 79) #[ptr gl] #[]] 56);have V:∀(y:Fn) (first cap:Array Value) (w:World),(Instr.makeFunc y first cap).run prog w=.ok (.func y first cap) w:=fun _ _ _ _=>rfl
 have R:=qQ (S1 api nap cap m ok o (by simp) _ q);have v:=qQ f;have u:=qQ d
 have p:c.w0.1.size<=gl:=by
  obtain⟨F,K,M,H,N,O⟩:=h;rw[<-A];exact H.size
 have C:=qQ p;have B:=qQ A;unfold Uw;by_cases i:(gz D).1=0
 ·rw[i]at R;have k:=qQ i;generalize gz D=r at*;clear h ok o d m q f i l p;go_enter func38,ntmps38;go_wp2_with fail;refine z.out.mono ?_;rintro e I⟨rfl,rfl⟩;go_wp2_with fail;refine R.out.mono ?_;rintro e J⟨rfl,g⟩;have a:=g.xu u.out v.out rfl rfl rfl rfl (fun b n=>by simp[n]);obtain⟨c0,_,_,_,P,Q⟩:=a.cells;have S:=a.frozen 0;have T:=a.frozen 5;have j:=qQ ((a.jZ api (ptr gl)).zC api r.2.2.endp);clear g a;go_wp2;go_ret2;exact qX ⟨k.out,gl,rfl,Nat.le_of_eq B.out,j.out⟩
 ·have t:(((gz D).1:Int) != 0)=true:=by simp;omega
  have k:=qQ i;generalize gz D=r at*;clear h ok o d m q f i l p;go_enter func38,ntmps38;go_wp2_with fail;refine z.out.mono ?_;rintro e I⟨rfl,rfl⟩;go_wp2_with fail;refine R.out.mono ?_;rintro e J⟨rfl,g⟩;have a:=g.xu u.out v.out rfl rfl rfl rfl (fun b n=>by simp[n]);have j:=qQ (a.drop C.out);clear g a;go_wp2;go_ret2;exact qY ⟨k.out,rfl,j.out⟩
end
end
end Go.Proofs.YthejglbnkmimjaaGreat
