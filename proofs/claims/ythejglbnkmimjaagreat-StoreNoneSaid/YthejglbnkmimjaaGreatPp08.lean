import Derived.RangeFuncNested
import Derived.RangeFuncBound
import Derived.OwnWalkIn
import Derived.TacticsInMore
import Derived.LoopNIn
import Derived.LoopIn
import Derived.Test.YthejglbnkmimjaaGreatPp07
import Derived.Stop.RegionWithIn
set_option linter.unusedVariables false
set_option maxRecDepth 100000
set_option maxHeartbeats 9000000
namespace Go.Proofs.YthejglbnkmimjaaGreat
open Tryz
section
open Go.RowKit Go.Shelf
attribute [local go_sem] Oper.semAt_some
abbrev bU(s:Tw) := { k:Nat // yC s k=true }
def om(s:Tw)(x:bU s):Array Value:=#[.int .i64 (x.1:Int),.int .i64 (kI s (x.1:Nat):Nat)]
def fA(s:Tw)(a:Nat)(b:List (bU s)):Nat:=(b.getLast?.map fun x=>kI s (x.1:Nat)).getD a
theorem JG(s:Tw)(a:Nat)(b:List (bU s))(x:bU s):fA s a (b++[x])=kI s (x.1:Nat):=by simp[fA]
def uR{s:Tw}(a:List (bU s)):List Int:=a.map fun x=>(x.1:Int)
theorem JW{s:Tw}(a:List (bU s))(x:bU s):uR (a++[x])=uR a++[(x.1:Int)]:=by simp[uR]
theorem FN{s:Tw}(a:List (bU s)):(uR a).length=a.length:=by simp[uR]
def lU(B:Nat)(W a:World):Prop:=a.heap[B]? = W.heap[B]?
theorem FO{B:Nat}{X Y Z:World}(h:lU B X Y)(k:lU B Y Z):lU B X Z:=Eq.trans k h
theorem FP{B:Nat}{w:World}(b:B<w.heap.size)(W:World)(l:Nat)(o a:Obj)(d:w.heap.size<=l)(h:W.heap[l]? = some o)(_ : o.isCells=false)(_ : o.isWalk=false):lU B W (W.putObj l a) :=
 (grownBy_putObj' W l a).block B (by have:=(qb.1 h).1;omega) (fun e=>by cases e;omega)
theorem tZ{W a:World}{B:Nat}{t:TypeId}{v:Value}(h:Boxed W B t v)(b:Below W.heap.size W a):Boxed a B t v:=(b.block B h.lt).trans h
theorem JA{W a:World}(h:Below W.heap.size W a):W.grownBy a none:=⟨h.os,h.tape,h.output,h.size,fun k b _=>h.block k b⟩
theorem FR(n:Nat)(hn:1<=n)(l t I b:Nat)(s:Tw)(hs:s.size<=1100000)(ae:b<=s.size)(J O:List (bU s)->World->Prop)(W:World)(Q:AbidesFrom W.heap.size J)
  (S:∀a x F,J a F->a.length<s.size+1->YieldAt Fence.wide (n-1) prog l (om s x) F fun e o =>
   (e = .returned (.bool true)/\J (a++[x]) o/\lU t F o)∨(e = .returned (.bool false)/\O (a++[x]) o))
  (aa:Boxed W t 9 (.string s)) (aj:W.cell? ⟨I,0,none⟩=some (.int .i64 b)) (h0:J [] W):
  CallsIn Fence.wide n prog 249 #[.func (.yield l) #[] #[],.pointer (some ⟨I,0,none⟩),.pointer (some ⟨t,0,none⟩)] W fun e o=>(∃v,e = .returned v) /\
   ((∃ys,(uR ys=whL s (s.size+1) b/\fA s b ys=whE s (s.size+1) b)/\J ys o)∨(∃a,True/\O a o)):=by
 have Y:=qQ (show uR ([]:List (bU s))++whL s (s.size+1) b=whL s (s.size+1) b from rfl);obtain⟨L,i⟩:∃L,whL s (s.size+1) b=L:=⟨_,rfl⟩
 obtain⟨E,g⟩:∃E,whE s (s.size+1) b=E:=⟨_,rfl⟩
 have Z:=qQ i;have X:=qQ g;rw[i,g];clear Y i g;refine callsIn_of_wp func249 rfl trivial ?_ rfl;simp only[ntmps249,List.size_toArray,List.length_cons,List.length_nil,Nat.reduceAdd,Nat.reduceSub,Array.replicate_succ,Array.replicate_zero,List.push_toArray,List.append_toArray,List.nil_append,List.cons_append]
 gi_wp2
 gi_loopw [4] (fun f wr=>∃(k:Nat) (a:List (bU s)),k<=s.size/\a.length<=k/\f = .int .i64 k/\uR a++whL s (s.size+1) k=L/\whE s (s.size+1) k=E/\fA s b a=k/\J a wr/\Boxed wr t 9 (.string s))
  (fun f _=>s.size-(intOf f).toNat)
 case atStart=>exact⟨b,[],ae,qH _,rfl,Z.out,X.out,rfl,h0,aa⟩
 case round =>
  obtain⟨k,a,hk,ak,rfl,i,g,G,R,T⟩:=hrel;have m:=qQ fun W=>sw s (k:Nat) W (by unfold maxLen;omega) (WalkArith.wf_i64 (by omega))
  have hc:=T.cell;cases j:yC s k with
  | false =>
    obtain⟨p,q⟩:=Xx j;rw[p,List.append_nil]at i;rw[q]at g;have z:=dK s k;rw[j]at z;obtain⟨U,V⟩:=X6 z;unfold dV at m;rw[z,U,V]at m;have B:=qQ i;have A:=qQ (G.trans g);clear j p q z U V i g G
    gi_wp2
    refine⟨trivial, ?_⟩;refine(callsIn_wide.2 (m.out _)).mono ?_;rintro e d⟨rfl,y⟩;have u:=Q a wr d none R (JA y) (fun r e=>by cases e)
    gi_wp2
    refine⟨fun _ h=>(by cases h), ?_⟩
    gi_wp2
    refine bodyPost_ret (results_none rfl _ _ _) rfl ?_;exact⟨⟨_,rfl⟩,.inl ⟨a,⟨B.out,A.out⟩,u⟩⟩
  | true =>
    obtain⟨p,q⟩:=Xq hk j;have ag:=oK j;rw[p]at i;rw[q]at g;have H:=dK s k;rw[j]at H;unfold dV at m;rw[H]at m;have u:∀d,Below wr.heap.size wr d->J a d:=fun d hb=>Q a wr d none R (JA hb) (fun r e=>by cases e)
    have C:=qQ fun d (h:J a d)=>S a ⟨k,j⟩ d h (by omega)
    have K:=qQ (JW a ⟨k,j⟩);have M:=qQ (JG s b a ⟨k,j⟩);unfold om at C;simp only at C K M;have B:=qQ i;have A:=qQ g;generalize uN s (k:Nat)=P at*;generalize kI s (k:Nat)=N at*;obtain⟨n1,n2⟩:=ag;clear p q H i g G S
    gi_wp2
    refine⟨trivial, ?_⟩;refine(callsIn_wide.2 (m.out _)).mono ?_;rintro e d⟨rfl,y⟩;obtain⟨fn,al,ah,ai,hy,hR⟩:=C.out d (u d y);have ad:=tZ T y;clear u
    gi_wp2
    refine hR.mono ?_;rintro e W3 (⟨rfl,ab,af⟩|⟨rfl,ac⟩)
    ·gi_wp2
     go_roundw
     case rel =>
      refine⟨N,a++[⟨k,j⟩],n2,by rw[qI];simp;omega,rfl, ?_,A.out,M.out,ab,Eq.trans af ad⟩;rw[K.out,qd];exact B.out
     case measure=>simp[intOf];omega
    ·gi_wp2
     refine bodyPost_ret (results_none rfl _ _ _) rfl ?_;exact⟨⟨_,rfl⟩,.inr ⟨_,trivial,ac⟩⟩
theorem FS(n:Nat)(q:1<=n)(b d a:Nat)(s:Tw)(r:s.size<=1100000)(p:a<=s.size)(w:World)
  (k:Boxed w b 9 (.string s)) (j:Boxed w d 3 (.int .i64 a)):
  SeqStopsK Fence.wide n prog 249 #[.pointer (some ⟨d,0,none⟩),.pointer (some ⟨b,0,none⟩)] (om s) (lU b)
   (fun ys=>uR ys=whL s (s.size+1) a/\fA s a ys=whE s (s.size+1) a) (fun _=>True) (s.size+1) w:=fun l J g W f m _ o i =>
 FR n q l b d a s r p J g W m o (tZ k f) (tZ j f).cell i
theorem FT(n:Nat)(s:Tw)(a:Int)(w:World):
  CallsIn Fence.wide n prog 209 #[.string s,.int .i64 a] w fun e w'=>e = .returned (.func (.func 249) #[] #[.pointer (some ⟨w.heap.size+1,0,none⟩),.pointer (some ⟨w.heap.size,0,none⟩)])/\w'=(w.alloc (.cells #[.string s] 9)).alloc (.cells #[.int .i64 a] 3):=by
 refine callsIn_of_wp func209 rfl trivial ?_ rfl;simp only[ntmps209,List.size_toArray,List.length_cons,List.length_nil,Nat.reduceAdd,Nat.reduceSub,Array.replicate_succ,Array.replicate_zero,List.push_toArray,List.append_toArray,List.nil_append,List.cons_append]
 gi_wp2
 go_ret;exact⟨rfl,rfl⟩
end
section
open Go.RowKit Go.Shelf
attribute [local go_sem] Oper.semAt_some
theorem F1(s:Tw)(a:Int)(w:World)(i:s.size<=1100000)(d:(Lit.int .i64 a).wf=true)(h:¬(0<=a/\a<=s.size)):
  Calls prog 154 #[.string s,.int .i64 a] w (fm s a w):=by
 have f:wlL s a=[]:=by unfold wlL;rw[qJ h]
 have g:wlE s a=0:=by unfold wlE;rw[qJ h]
 unfold fm;rw[f,g];have b:=qQ fun W=>ob s a W (by unfold maxLen;omega) d
 rw[qG h]at b;clear h d;go_enter func154,ntmps154;go_wp2_with fail;refine(b.out _).mono ?_;rintro e j⟨rfl,rfl⟩;go_wp2;exact bodyPost_ret (v:=.tuple #[.slice none 0 0,.int .i64 0]) (by simp[results,Tryz.results154,go_sem]) rfl ⟨_,rfl,qX ⟨rfl,_,_,rfl⟩,((Below.refl _ w).alloc (qZ _) _).alloc (by simp) _⟩
theorem JB{w:World}{B base n size:Nat}{e:TypeId}{v:Value}{xs:List Value}(h:w.ownsRow base e size v n xs)(d:B<=base):w.ownsRow B e size v n xs:=by
 refine⟨h.1, ?_⟩;rcases h.2 with b|⟨g,cap,a,i,f,r⟩
 ·exact qX b
 ·exact qY ⟨g,cap,a,i,qR d f,r⟩
theorem JC{w:World}{base n size:Nat}{e:TypeId}{v:Value}{xs:List Value}(h:w.ownsRow base e size v n xs):∃A c,v = .slice A n c:=by
 rcases h.2 with⟨a,b⟩|⟨g,cap,d,a,_⟩
 ·exact⟨none,0,by rw[a,b]⟩
 ·exact⟨_,cap,a⟩
theorem lG{w:World}{base n size B:Nat}{e:TypeId}{v:Value}{xs:List Value}(h:w.ownsRow base e size v n xs)(b:B<base):v.ownBlock≠some B:=fun a=>by
 have:=Gu h B a;omega
theorem F3(s:Tw)(a:Nat)(w:World)(J:s.size<=1100000)(ag:a<=s.size):
  Calls prog 154 #[.string s,.int .i64 (a:Nat)] w (fm s (a:Nat) w):=by
 obtain⟨i0,hi,ak,al,am⟩:=info_parts ny;have R:wlL s (a:Nat)=whL s (s.size+1) a:=by unfold wlL;rw[qK (by omega),qh]
 have S:wlE s (a:Nat)=whE s (s.size+1) a:=by unfold wlE;rw[qK (by omega),qh]
 unfold fm;rw[R,S];clear R S;have N:=qQ fun W=>ob s (a:Nat) W (by unfold maxLen;omega) (WalkArith.wf_i64 (by omega))
 rw[qW (by omega)]at N;refine(callsIn_wide (n:=8)).1 ?_;refine callsIn_of_wp_marks func154 rfl trivial ?_ rfl;simp only[ntmps154,List.size_toArray,List.length_cons,List.length_nil,Nat.reduceAdd,Nat.reduceSub,Array.replicate_succ,Array.replicate_zero,List.push_toArray,List.append_toArray,List.nil_append,List.cons_append]
 gi_wp2
 refine⟨trivial, ?_⟩;refine(callsIn_wide.2 (N.out _)).mono ?_;rintro e w'⟨rfl,rfl⟩
 gi_wp2
 refine⟨trivial, ?_⟩;refine(FT _ _ _ _).mono ?_;rintro e w'⟨rfl,rfl⟩
 gi_wp2
 obtain⟨f,j⟩:∃f,((((w.alloc (.cells #[.slice none 0 0] 37)).alloc (.cells #[.int .i64 (a:Nat)] 3)).alloc (.cells #[.string s] 9)).alloc (.cells #[.int .i64 (a:Nat)] 3))=f:=⟨_,rfl⟩
 have av:f.heap.size=w.heap.size+4:=by rw[<-j];simp
 have ad:Below w.heap.size w f:=by rw[<-j];exact((((Below.refl _ w).alloc (qZ _) _).alloc (by simp) _).alloc (by simp;omega) _).alloc (by simp;omega) _
 have b0:Boxed f w.heap.size 37 (.slice none 0 0):=by rw[<-j];exact(((Boxed.new w 37 (.slice none 0 0)).alloc _).alloc _).alloc _
 have b1:Boxed f (w.heap.size+1) 3 (.int .i64 (a:Nat)):=by
  have h:=Boxed.new (w.alloc (.cells #[.slice none 0 0] 37)) 3 (.int .i64 (a:Nat));rw[World.size_alloc]at h;rw[<-j];exact(h.alloc _).alloc _
 have P:Boxed f (w.heap.size+2) 9 (.string s):=by
  have h:=Boxed.new ((w.alloc (.cells #[.slice none 0 0] 37)).alloc (.cells #[.int .i64 (a:Nat)] 3)) 9 (.string s);rw[World.size_alloc,World.size_alloc]at h;rw[<-j];exact h.alloc _
 have b3:Boxed f (w.heap.size+3) 3 (.int .i64 (a:Nat)):=by
  have h:=Boxed.new (((w.alloc (.cells #[.slice none 0 0] 37)).alloc (.cells #[.int .i64 (a:Nat)] 3)).alloc (.cells #[.string s] 9)) 3 (.int .i64 (a:Nat));rw[World.size_alloc,World.size_alloc,World.size_alloc]at h;rw[<-j];exact h
 rw[j];clear j
 refine wpIn_rangeFunc_ownG rfl (by omega) (gf:=249) (lb:=#[.pointer (some ⟨w.heap.size+3,0,none⟩),.pointer (some ⟨w.heap.size+2,0,none⟩)]) rfl trivial (enters_of func249 (by kernel_rfl) rfl)
  (FS _ (by omega) (w.heap.size+2) (w.heap.size+3) a s J ag f P b3) FO (FP (by omega)) (Below.refl _ _) (fun _=>rfl)
  (fun b W=>(((∃v,Boxed W w.heap.size 37 v/\W.ownsRow (w.heap.size+4) 3 1 v (uR b).length ((uR b).map oV)/\True)/\Boxed W (w.heap.size+1) 3 (.int .i64 (fA s a b:Nat)))/\Boxed W (w.heap.size+2) 9 (.string s))/\Below w.heap.size f W)
  (fun _ _ _=>False)
  (OwnFrom.and (OwnFrom.and (OwnFrom.and (Own.from (holdsRow_own (w.heap.size+4) w.heap.size 37 3 1 (fun b=>(uR b).length) (fun b=>(uR b).map oV) (fun _ _=>True)) _) (Own.from (boxed_own (w.heap.size+1) 3 (fun b=>.int .i64 (fA s a b:Nat))) _)) (Own.from (boxed_own (w.heap.size+2) 9 (fun _=>.string s)) _)) (ownFrom_below (by omega) (by omega)))
  (fun _ _ _ _ _ J _ _=>J)
  ⟨⟨⟨⟨_,b0,World.ownsRow_nil _ _ _ _,trivial⟩,b1⟩,P⟩,Below.refl _ _⟩
  (fun x=>{ tmps:=#[.string s,.int .i64 (a:Nat),undef,undef,.pointer (some ⟨w.heap.size,0,none⟩),.pointer (some ⟨w.heap.size+1,0,none⟩),.int .i64 (x.1:Int),.int .i64 (kI s (x.1:Nat):Nat),.string s,.int .i64 (a:Nat),.bool true,.bool false,.int .i64 (a:Nat),.string s,.int .i64 (a:Nat),.func (.func 249) #[] #[.pointer (some ⟨w.heap.size+1+1+1,0,none⟩),.pointer (some ⟨w.heap.size+1+1,0,none⟩)],.int .i64 (x.1:Int),.int .i64 (kI s (x.1:Nat):Nat),undef,undef,undef,undef,undef,undef,undef],defers:=[] })
  ?assign ?body ?done ?stop
 case assign =>
  rintro l x W K k;unfold om
  gi_wp2
  exact k
 case body =>
  rintro l b x W⟨⟨⟨⟨v,m,d,_⟩,g⟩,z⟩,i⟩ Y;have U:=m.cell;have V:=g.cell;have X:=g.frozen;have hS:=qQ (JW b x);have o:=qQ (JG s a b x);have hW:w.heap.size+4<=W.heap.size:=by have:=i.size;omega
  have hl:(uR b).length<s.size+1:=by rw[FN];exact Y
  generalize uR b=q at*;clear Y
  gi_wp2_with (gi_at_builtin;refine wpListIn_append_own _ rfl _ _ 37 rfl (w.heap.size+4) 3 i0 (.int .i64 0) 1 8 Tryz.underlying37 hi ak al am rfl (by decide) _ _ _ rfl (d.alloc _) ⟨W.heap.size,0,none⟩ 1 1 [.int .i64 (x.1:Int)] rfl rfl (cell_one_new _ _ _) (by intro u hu;simp at hu;subst hu;rfl) (by unfold maxLen;omega) (by omega) (by simp;omega) ?_;intro v' C y F _;obtain⟨M,Q,rfl⟩:=JC y;obtain⟨aa,aj,_,ah,af⟩:=m.appended (by decide) (JB d (by omega)) (by omega) (qZ _) (JB y (by omega)) F;have ap:=aa.cell;have aq:=aa.frozen;have H:=(g.alloc _).kept F (lG d (by omega)).symm;have ai:=(z.alloc _).kept F (lG d (by omega)).symm;have ar:=H.cell;have au:=H.frozen)
  have Z:=(ai.other (B':=w.heap.size) (by omega) (.slice M (q.length+1) Q)).other (B':=w.heap.size+1) (by omega) (.int .i64 (kI s (x.1:Nat):Nat));have B:=y.kept (grownBy_setCell' C w.heap.size (.slice M (q.length+1) Q)) (.inr (lG y (by omega)));have I:=B.kept (grownBy_setCell' _ (w.heap.size+1) (.int .i64 (kI s (x.1:Nat):Nat))) (.inr (lG y (by omega)));refine⟨(ah.trans (KeepsOthers.setCell _ _ _)).from _,Eq.trans Z (Eq.symm z),⟨⟨⟨_,aj.other (by omega) _, ?_,trivial⟩, ?_⟩,Z⟩,i.trans (af.setCell (p:=⟨w.heap.size+1,0,none⟩) (by simp) _)⟩
  ·rw[hS.out,qI,List.map_append];exact I
  ·rw[o.out];exact(H.other (B':=w.heap.size) (by omega) _).set _
 case done =>
  rintro D ys W hD⟨ac,ab⟩⟨⟨⟨⟨v,m,d,_⟩,g⟩,z⟩,i⟩ k;obtain⟨q,G⟩:∃q,whL s (s.size+1) a=q:=⟨_,rfl⟩
  obtain⟨E,o⟩:∃E,whE s (s.size+1) a=E:=⟨_,rfl⟩
  rw[ac,G]at d;rw[ab,o]at g;have HE:=qQ o;have HL:=qQ G;obtain⟨A,c,rfl⟩:=JC d;have U:=m.cell;have hf:=m.frozen;have V:=g.cell;have X:=g.frozen;have O:=qQ (qU d (qU i k));clear d i k ac ab G o
  gi_wp2
  gi_region
  gi_wp2
  obtain⟨d,i,k⟩:=O.out;have w0:=(m.set (.slice A q.length c)).other (B':=w.heap.size+1) (by omega) (.int .i64 (E:Nat));have C:=(g.other (B':=w.heap.size) (by omega) (.slice A q.length c)).set (.int .i64 (E:Nat));have B:=(d.kept (grownBy_setCell' W w.heap.size (.slice A q.length c)) (.inr (lG d (by omega)))).kept (grownBy_setCell' _ (w.heap.size+1) (.int .i64 (E:Nat))) (.inr (lG d (by omega)));have T:=(KeepsOthers.setCell (W.setCell ⟨w.heap.size,0,none⟩ (.slice A q.length c)) ⟨w.heap.size+1,0,none⟩ (.int .i64 (E:Nat))).same D _ ((KeepsOthers.setCell W ⟨w.heap.size,0,none⟩ (.slice A q.length c)).same D _ k rfl) rfl;have ae:=((((ad.trans i).setCell (p:=⟨w.heap.size,0,none⟩) (qZ _) (.slice A q.length c)).setCell (p:=⟨w.heap.size+1,0,none⟩) (by simp) (.int .i64 (E:Nat)))).drew;have an:Boxed (((W.setCell ⟨w.heap.size,0,none⟩ (.slice A q.length c)).setCell ⟨w.heap.size+1,0,none⟩ (.int .i64 (E:Nat))).drew) w.heap.size 37 (.slice A q.length c):=w0;have ao:Boxed (((W.setCell ⟨w.heap.size,0,none⟩ (.slice A q.length c)).setCell ⟨w.heap.size+1,0,none⟩ (.int .i64 (E:Nat))).drew) (w.heap.size+1) 3 (.int .i64 (E:Nat)):=C;have t:(((W.setCell ⟨w.heap.size,0,none⟩ (.slice A q.length c)).setCell ⟨w.heap.size+1,0,none⟩ (.int .i64 (E:Nat))).drew).heap[D]? = some (.deferred (some [])):=T;have I:(((W.setCell ⟨w.heap.size,0,none⟩ (.slice A q.length c)).setCell ⟨w.heap.size+1,0,none⟩ (.int .i64 (E:Nat))).drew).ownsRow (w.heap.size+4) 3 1 (.slice A q.length c) q.length (q.map oV):=B;clear w0 C B T k i d O m g z U hf V X;generalize ((W.setCell ⟨w.heap.size,0,none⟩ (.slice A q.length c)).setCell ⟨w.heap.size+1,0,none⟩ (.int .i64 (E:Nat))).drew=W2 at*;refine⟨by simp,.inl ⟨_,_,rfl,run_takeDeferred t, ?_⟩⟩;have c0:=cell_kept an.cell (grownBy_putObj' _ D (.deferred none)) (fun r e=>by cases e;exact⟨_,t,rfl⟩);have c1:=cell_kept ao.cell (grownBy_putObj' _ D (.deferred none)) (fun r e=>by cases e;exact⟨_,t,rfl⟩);rw[HL.out,HE.out];refine⟨.tuple #[.slice A q.length c,.int .i64 (E:Nat)], ?_,_,rfl,ju.xD (ownsRow_putObj I _ t rfl),ae.trans (belowK_b (w:=w) (qZ _) W2 D _ _ (by omega) t rfl rfl)⟩;simp[results,Tryz.f154,go_sem,c0,c1]
 case stop =>
  rintro D c b W _ _ h _;exact h.elim
theorem F4(s:Tw)(a:Int)(w:World)(b:s.size<=1100000)(d:(Lit.int .i64 a).wf=true):
  Calls prog 154 #[.string s,.int .i64 a] w (fm s a w):=by
 by_cases h:0<=a/\a<=s.size
 ·obtain⟨k,rfl⟩:∃k:Nat,a=k:=⟨a.toNat,by omega⟩
  exact F3 s k w b (by omega)
 ·exact F1 s a w b d h
end
section
open Go.RowKit
theorem tJ(n:Int)(w:World)(q:(Lit.int .i64 n).wf=true):
  Calls prog 152 #[.int .i64 n] w fun e w'=>e = .returned (.string (hdS n))/\Below w.heap.size w w':=by
 by_cases h:0<=n/\n<=199
 ·obtain⟨k,rfl⟩:∃k:Nat,n=k:=⟨n.toNat,by omega⟩
  rw[Zl (by omega)];have d:=qQ fun W=>uL k 4 W (by omega) (by omega) (by omega)
  have f:=qQ fun W=>na (hdT k) W (by rw[Zm];decide)
  have l:∀w:World,(Op.stringOp .add ⟨#[99,104,110,107]⟩ (bs (be 4 k))).run prog w = .ok (.string (hdT k)) w:=fun w=>run_string_add_sum (P:=prog) (w:=w) _ _ (by rw[jh,jO];decide)
  have b:decide ((k:Int)<0)=false:=qG (by omega);have j:decide ((200:Int)<=(k:Int))=false:=qG (by omega);have m:(k:Int)<200:=by omega
  have hw:IntKind.u64.wrap (k:Int)=(k:Int):=by rw[IntKind.wrap_u64];omega
  generalize vg (hdT k)=S at*;generalize hdT k=T at*;generalize bs (be 4 k)=B at*;clear h;go_enter func152,ntmps152;go_wp2_with fail;refine(d.out _).mono ?_;rintro e o⟨rfl,g⟩;go_wp2_with fail;refine(f.out _).mono ?_;rintro e p⟨rfl,i⟩;go_wp2;go_ret;exact⟨rfl,bj g i⟩
 ·rw[sc h];by_cases a:n<0
  ·have b:decide (n<0)=true:=qW a;clear h;go_enter func152,ntmps152;go_wp2;go_ret;exact⟨rfl,Below.refl _ _⟩
  ·have b:decide (n<0)=false:=qG a;have j:decide ((200:Int)<=n)=true:=qW (by omega);clear h;go_enter func152,ntmps152;go_wp2;go_ret;exact⟨rfl,Below.refl _ _⟩
theorem F5(s:Tw)(n:Int)(w:World)(d:(Lit.int .i64 n).wf=true)(h:¬(0<=n/\n<=199)):
  Calls prog 92 #[.string s,.int .i64 n] w (ma w):=by
 have a:=qQ fun W=>tJ n W d
 rw[sc h]at a;unfold ma;clear h;go_enter func92,ntmps92;go_wp2_with fail;refine(a.out _).mono ?_;rintro e f⟨rfl,b⟩;go_wp2;go_ret3;exact⟨_,rfl,qX ⟨rfl,_,_,rfl⟩,b⟩
theorem F7(s H:Tw)(n:Int)(w:World)(g:H.size=12)
  (d:Hid (∀W:World,Calls prog 152 #[.int .i64 n] W fun e w'=>e = .returned (.string H)/\Below W.heap.size W w'))
  (a:Hid (∀W:World,Calls prog 153 #[.string s,.string H] W fun e w'=>e = .returned (.bool false)/\W=w'))
  (b:Hid (∀W:World,Calls prog 153 #[.string H,.string s] W fun e w'=>e = .returned (.bool false)/\W=w')):
  Calls prog 92 #[.string s,.int .i64 n] w (ma w):=by
 unfold ma;obtain⟨j,k⟩:=sh g;go_enter func92,ntmps92;go_wp2_with fail;refine(d.out _).mono ?_;rintro e l⟨rfl,f⟩;go_wp2_with fail;refine(a.out _).mono ?_;rintro e i⟨rfl,rfl⟩;go_wp2_with fail;refine(b.out _).mono ?_;rintro e i⟨rfl,rfl⟩;go_wp2;go_ret3;exact⟨_,rfl,qX ⟨rfl,_,_,rfl⟩,f⟩
theorem F8(s H:Tw)(n:Int)(w:World)(g:H.size=12)
  (d:Hid (∀W:World,Calls prog 152 #[.int .i64 n] W fun e w'=>e = .returned (.string H)/\Below W.heap.size W w'))
  (a:Hid (∀W:World,Calls prog 153 #[.string s,.string H] W fun e w'=>e = .returned (.bool false)/\W=w'))
  (b:Hid (∀W:World,Calls prog 153 #[.string H,.string s] W fun e w'=>e = .returned (.bool true)/\W=w')):
  Calls prog 92 #[.string s,.int .i64 n] w (sl w):=by
 unfold sl;obtain⟨j,k⟩:=sh g;go_enter func92,ntmps92;go_wp2_with fail;refine(d.out _).mono ?_;rintro e l⟨rfl,f⟩;go_wp2_with fail;refine(a.out _).mono ?_;rintro e i⟨rfl,rfl⟩;go_wp2_with fail;refine(b.out _).mono ?_;rintro e i⟨rfl,rfl⟩;go_wp2;go_ret3;exact⟨_,rfl,qX ⟨rfl,_,_,rfl⟩,f⟩
theorem F9(s H:Tw)(n:Int)(w:World)(j:H.size=12)(L:List Int)(E:Nat)
  (d:Hid (∀W:World,Calls prog 152 #[.int .i64 n] W fun e w'=>e = .returned (.string H)/\Below W.heap.size W w'))
  (b:Hid (∀W:World,Calls prog 153 #[.string s,.string H] W fun e w'=>e = .returned (.bool true)/\W=w'))
  (f:Hid (∀W:World,Calls prog 154 #[.string s,.int .i64 12] W fun e w'=>∃u,e = .returned (.tuple #[u,.int .i64 (E:Nat)])/\ju w' u L/\Below W.heap.size W w')):
  Calls prog 92 #[.string s,.int .i64 n] w fun e w'=>∃u,e = .returned (.tuple #[u,.int .i64 (E:Nat),.bool true])/\ju w' u L/\Below w.heap.size w w':=by
 obtain⟨l,m⟩:=sh j;go_enter func92,ntmps92;go_wp2_with fail;refine(d.out _).mono ?_;rintro e o⟨rfl,g⟩;go_wp2_with fail;refine(b.out _).mono ?_;rintro e k⟨rfl,rfl⟩;go_wp2_with fail;refine(f.out _).mono ?_;rintro e k⟨u,rfl,a,i⟩;obtain⟨A,c,rfl⟩:=a.zF;go_wp2;go_ret3;exact⟨_,rfl,a,bj g i⟩
theorem Fq(s:Tw)(n:Int)(w:World)(I:s.size<=1100000)(F:(Lit.int .i64 n).wf=true):
  Calls prog 92 #[.string s,.int .i64 n] w (fG s n w):=by
 have B:scK s n=0->∀e w',ma w e w'->fG s n w e w':=by
  intro b e w'⟨u,p,r,a⟩;obtain⟨f,g,o⟩:=D9 b;exact⟨u,by rw[p,g,o];rfl,by rw[f];exact r,a⟩
 have G:scK s n=1->∀e w',sl w e w'->fG s n w e w':=by
  intro b e w'⟨u,p,r,a⟩;obtain⟨f,g,o⟩:=Dq b;exact⟨u,by rw[p,g,o];rfl,by rw[f];exact r,a⟩
 by_cases h:0<=n/\n<=199
 ·obtain⟨k,rfl⟩:∃k:Nat,n=k:=⟨n.toNat,by omega⟩
  have d:=cL (n:=k) (by omega);have m:=qQ fun W=>tJ (k:Nat) W F
  have C:s.size<=maxLen:=by unfold maxLen;omega
  have A:(hdS (k:Nat)).size<=maxLen:=by rw[d];decide
  have j:=fun W=>pr s (hdS (k:Nat)) W C A
  have l:=fun W=>pr (hdS (k:Nat)) s W A C
  have t:(hdS (k:Nat)).extract 0 12=hdS (k:Nat):=by rw[<-d];exact ByteArray.extract_zero_size
  by_cases i:12<=s.size/\s.extract 0 12=hdS (k:Nat)
  ·have f:ui s (hdS (k:Nat))=true:=(by unfold ui;rw[d];exact qW i);rw[f]at j;have b:scK s (k:Nat)=2:=Zp h (by rw[Nat.min_eq_right i.1,i.2,t]) (by omega);obtain⟨J,K,M⟩:=Zn b;have v:=qQ fun W=>F4 s 12 W I (by decide)
   unfold fm at v;unfold fG;rw[J,K,M];exact F9 s _ _ w d _ _ m (qQ j) v
  ·have f:ui s (hdS (k:Nat))=false:=(by unfold ui;rw[d];exact qG i);rw[f]at j;by_cases a:s.size<=12/\(hdS (k:Nat)).extract 0 s.size=s
   ·have g:ui (hdS (k:Nat)) s=true:=(by unfold ui;rw[d];exact qW a);rw[g]at l
    have H:s.size<12:=by
     rcases Nat.lt_or_ge s.size 12 with c|c
     ·exact c
     ·have y:s.size=12:=(by omega);refine absurd ⟨c, ?_⟩ i;have z:=a.2;rw[y,t]at z;rw[<-y,ByteArray.extract_zero_size];exact z.symm
    have b:scK s (k:Nat)=1:=Dj h (by rw[Nat.min_eq_left (by omega),a.2,ByteArray.extract_zero_size]) H;exact(F8 s _ _ w d m (qQ j) (qQ l)).mono (G b)
   ·have g:ui (hdS (k:Nat)) s=false:=(by unfold ui;rw[d];exact qG a);rw[g]at l
    have b:scK s (k:Nat)=0:=Dz h (fun q=>by
     rcases Nat.lt_or_ge s.size 12 with c|c
     ·rw[Nat.min_eq_left (by omega),ByteArray.extract_zero_size]at q;exact a ⟨by omega,q.symm⟩
     ·rw[Nat.min_eq_right c,t]at q;exact i ⟨c,q⟩)
    exact(F7 s _ _ w d m (qQ j) (qQ l)).mono (B b)
 ·exact(F5 s n w F h).mono (B (Dx h))
theorem Fx(size:Int)(p:Tw)(w:World)(f:p.size<=maxLen)(g:(Lit.int .i64 size).wf=true):
  Calls prog 198 #[.int .i64 size,.string p] w fun e w'=>e = .returned (.bool (ftS size p))/\w=w':=by
 have i:=bounds_i64 g;unfold maxLen at f;unfold ftS;by_cases a:p.size<=2000
 ·by_cases b:0<=size
  ·by_cases d:size<=4084-(p.size:Int)
   ·rw[qW ⟨a,b,by omega,by omega⟩];go_enter func198,ntmps198;go_wp2;go_ret;exact⟨rfl,rfl⟩
   ·rw[qG (fun q=>d (by omega))];go_enter func198,ntmps198;go_wp2;go_ret;exact⟨rfl,rfl⟩
  ·rw[qG (fun q=>b q.2.1)];go_enter func198,ntmps198;go_wp2;go_ret;exact⟨rfl,rfl⟩
 ·rw[qG (fun q=>a q.1)];go_enter func198,ntmps198;go_wp2;go_ret;exact⟨rfl,rfl⟩
theorem T4: kc where
 head:=tJ
 scan:=Fq
 fits:=Fx
 put:=FA
end
section
open Go.RowKit Go.Shelf
theorem JD(s:Tw):∀(n k:Nat) (x:Int),x∈whL s n k->0<=x/\x<=s.size
 | 0,k,x,h=>by cases h
 | n+1,k,x,h=>by
   unfold whL at h;split at h
   ·rename_i a;rcases qL.1 h with rfl|h
    ·have:=oK a;omega
    ·exact JD s n _ x h
   ·cases h
theorem Fz{s:Tw}{n x:Int}(h:x∈scL s n):0<=x/\x<=s.size:=by
 unfold scL wlL at h;split at h
 ·split at h
  ·exact JD s _ _ x h
  ·cases h
 ·cases h
theorem Fj{k n:Nat}{D:zr}{pos:Int}(h:(rdC D (nmC n)).2.1≠0):uA (k+1) n D pos=⟨ByteArray.empty,0,0,(rdC D (nmC n)).2.1,(rdC D (nmC n)).2.2⟩:=by
 unfold uA;rw[qK h]
theorem Fk{k n:Nat}{D:zr}{pos:Int}(h:(rdC D (nmC n)).2.1=0)(b:∀x∈scL (rdC D (nmC n)).1 (n:Nat),¬pos<=(n:Int)*4096+x):uA (k+1) n D pos=uA k (n+1) (rdC D (nmC n)).2.2 pos:=by
 rw[uA,qJ (by simp[h]),List.find?_eq_none.2 (fun x a=>by simpa using b x a)]
theorem Fv{k n j:Nat}{D:zr}{pos x:Int}(h:(rdC D (nmC n)).2.1=0)(a:(scL (rdC D (nmC n)).1 (n:Nat))[j]? = some x)(g:pos<=(n:Int)*4096+x)(i:∀y∈(scL (rdC D (nmC n)).1 (n:Nat)).take j,¬pos<=(n:Int)*4096+y):
  uA (k+1) n D pos=⟨uN (rdC D (nmC n)).1 x,(n:Int)*4096+x,(n:Int)*4096+(kI (rdC D (nmC n)).1 x:Nat),0,(rdC D (nmC n)).2.2⟩:=by
 have f:(scL (rdC D (nmC n)).1 (n:Nat)).find? (fun x=>decide (pos<=(n:Int)*4096+x))=some x:=by
  generalize scL (rdC D (nmC n)).1 (n:Nat)=l at*;have b:=(qM.1 a).1
  have e:l=l.take j++(x::l.drop (j+1)):=by
   have d:l.drop j=x::l.drop (j+1):=by
    rw[List.drop_eq_getElem_cons b];congr 1;rw[qD b]at a;simpa using a
   rw[<-d,ql]
  rw[e,List.find?_append,List.find?_eq_none.2 (fun y m=>by simpa using i y m)];simp[g]
 rw[uA,qJ (by simp[h]),f]
theorem ot{b:Func}{t u v x:Tmp}(h:b.results=#[.tmp t,.tmp u,.tmp v,.tmp x])(a:Array Value)(P:Program)(w:World):
  (results b a).run P w = .ok (.tuple #[a.getD t undef,a.getD u undef,a.getD v undef,a.getD x undef]) w:=by
 simp[results,h]
section
variable {At:jK}(api:jY At)(nap:jz)(cap:kc){c:Ctx}{gl gd:Nat}{L L':jV}{D D':zr}{w w':World}
include api nap cap
abbrev JE(At:jK)(c:Ctx)(gl gd:Nat)(L:jV)(r:lV):Ending->World->Prop:=kU At c gl gd (.tuple #[.string r.p,.int .i64 r.at_,.int .i64 r.next,err r.e]) L r.D
theorem Fy(hm:c.m=ptr gl)(h:TSt At c gl gd L D w)(ok:WfP D)(F:D.count<=1000000000)(pos:Int)(hw:(Lit.int .i64 pos).wf=true)(hc:L.chunks<=200)(he:vU D L=0):Calls prog 43 #[ptr gl,.int .i64 pos] w (JE At c gl gd L (uA (L.chunks-(max pos 0/4096).toNat) (max pos 0/4096).toNat D pos)):=by
 have hr:=qQ (lY api hm h);rw[he]at hr;have bb:=bounds_i64 hw;obtain⟨g,ar⟩:∃g,g=(max pos 0/4096).toNat:=⟨_,rfl⟩
 rw[<-ar];have aK:∀ts t w,(Builtin.max_ ts t #[.int .i64 pos,.int .i64 0]).run prog w = .ok (.int .i64 (max pos 0)) w:=fun ts t w=>by rw[run_max_int2,show(if pos<0 then(0:Int) else pos)=max pos 0 by split<;>omega]
 have e1:(max pos 0).tdiv 4096=(g:Int):=by rw[Int.tdiv_eq_ediv_of_nonneg (by omega)];omega
 have aL:IntKind.i64.wrap (g:Int)=(g:Int):=IntWalk.i64_in _ (by omega);have au:g<=9223372036854775807/4096:=by omega
 generalize max pos 0=mx at*;have OK:=qQ ok;have ay:=qQ F;have HC:=qQ hc;have aJ:=qQ au;have BB:=qQ bb;clear hm h ok F hw hc he ar bb au;go_enter func43,ntmps43;go_wp2;go_step3;go_wp2_with fail;refine hr.out.mono ?_;rintro e w1⟨rfl,h1⟩;have H1:=qQ h1;clear h1;go_wp2;go_step3;go_wp2;go_loopw [8] (fun i wr=>∃(k:Nat) (d:zr),i = .int .i64 k/\TSt At c gl gd L d wr/\WfP d/\d.count<=1000000000+k/\uA (L.chunks-k) k d pos=uA (L.chunks-g) g D pos/\(k=g∨k<=L.chunks)) (fun i _=>L.chunks-(intOf i).toNat)
 case atStart=>exact⟨g,D,rfl,H1.out,OK.out,by have:=ay.out;omega,rfl,qX rfl⟩
 case round =>
  obtain⟨k,d,rfl,r,aw,F,hk,aa⟩:=hrel;have c3:=r.cells.2.2.2.1;have HT:=qQ r;have H:=qQ hk;have S:=qQ aw;have ac:=qQ F;clear r hk aw F;by_cases M:k<L.chunks
  ·have ao:=HC.out;have l1:decide ((k:Int)<(L.chunks:Int))=true:=qW (by omega);have X:=qQ (Zi api nap HT.out S.out (by have:=ac.out;omega) k (by omega));have G:=Zt (n:=nmC k) S.out;have HW:=qQ (sa S.out (nmC k));have ad:=qQ (Ze d (nmC k));have J:L.chunks-k=(L.chunks-(k+1))+1:=(by omega);by_cases p:(rdC d (nmC k)).2.1=0
   case neg =>
    have Q:=qQ (Fj (k:=L.chunks-(k+1)) (pos:=pos) p);rw[<-J]at Q;have o:=qQ (Q.out.symm.trans H.out);have t1:(((rdC d (nmC k)).2.1:Int) != 0)=true:=(by simp;omega);generalize rdC d (nmC k)=R at*;obtain⟨s,y,N⟩:=R;dsimp only at*;generalize hn:(L.chunks:Int)=n at*;clear ao G J p M aa Q HW ad;go_wp2_with fail;refine X.out.mono ?_;rintro e w2⟨rfl,C⟩;have O:=qQ C;clear C;go_wp2;refine bodyPost_ret (ot rfl _ _ _) rfl ?_;rw[<-o.out];exact⟨rfl,O.out⟩
   have ak:=qQ fun(W:World)=>cap.scan (rdC d (nmC k)).1 (k:Nat) W (by omega) (bY (by omega))
   have aB:=qQ fun x (l:x∈scL (rdC d (nmC k)).1 (k:Nat))=>Fz l
   have ah:=qQ (Fk (k:=L.chunks-(k+1)) (pos:=pos) p);have ai:=qQ (fun j x=>Fv (k:=L.chunks-(k+1)) (j:=j) (pos:=pos) (x:=x) p);rw[<-J]at ah ai;rw[p]at X;have aj:=qQ fun(W:World) (x:Int) (l:0<=x/\x<=((rdC d (nmC k)).1.size:Nat))=>sw (rdC d (nmC k)).1 x W (by unfold maxLen;omega) (WalkArith.wf_i64 (by omega))
   unfold dV at aj;unfold fG at ak;have hFr:=qQ fun(W:World)=>ov k W (by omega)
   have af:=qQ (show(k:Int)<=200 by omega);have aC:=qQ (show((rdC d (nmC k)).1.size:Int)<=1048576 by omega);have ag:=qQ M;generalize rdC d (nmC k)=R at*;obtain⟨s,y,N⟩:=R;dsimp only at*;generalize scL s (k:Nat)=a at*;generalize scE s (k:Nat)=en at*;generalize uO s (k:Nat)=aQ at*;generalize hn:(L.chunks:Int)=n at*;have HN:=qQ hn;clear ao G J p M aa;go_wp2_with fail;refine X.out.mono ?_;rintro e w2⟨rfl,C⟩;have O:=qQ C;clear C;go_wp2_with fail;refine(ak.out _).mono ?_;rintro e w3⟨u,rfl,hi,v⟩;have H3:=qQ (O.out.below api v);obtain⟨A,off,cp,rfl,aq,an⟩:=hi.cell;have ax:=qQ an;have az:=qQ aq;clear v hi an aq;go_wp2;go_loopw [14] (fun i aI=>∃j m:Nat,j<=a.length/\i = .int .i64 j/\(∀y∈a.take j,¬pos<=(k:Int)*4096+y)/\aI=w3.drewN m) (fun i _=>a.length-(intOf i).toNat)
   case atStart=>exact⟨0,0,qH _,rfl,fun y f=>by simp at f,rfl⟩
   case round =>
    obtain⟨j,m,Z,rfl,al,rfl⟩:=hrel;have P:=qQ al;have r:=H3.out.drewN api m;have T:=qQ r;clear al r;by_cases z:j<a.length
    ·have l:a[j]? = some a[j]:=qD z;have ab:=aB.out _ (List.getElem_mem z);obtain⟨b,rfl,am⟩:=ax.out j _ l;generalize a[j]=x at*;have HX:=qQ l;have aG:=qQ ab;obtain⟨I,K⟩:∃I,I=w3.drewN m:=⟨_,rfl⟩
     have d3:I.cell? ⟨b,off+j,none⟩=some (.int .i64 x):=(by rw[K];exact am);rw[<-K]at T ⊢;have aF:=qQ K;clear am K;have G:=aC.out;have ap:=af.out;have t5:((j:Int)==(a.length:Int))=false:=(by simp;omega);have l5:(j:Int)<(a.length:Int):=(by omega);have aN:IntKind.i64.wrap ((k:Int)*4096+x)=(k:Int)*4096+x:=IntWalk.i64_in _ (by omega);by_cases B:pos<=(k:Int)*4096+x
     ·have t6:decide (pos<=(k:Int)*4096+x)=true:=qW B;have o:=qQ ((ai.out j x HX.out B (fun y f=>by have:=P.out y f;omega)).symm.trans H.out);have aH:=X7 s x;have aP:IntKind.i64.wrap ((k:Int)*4096+(kI s x:Nat))=(k:Int)*4096+(kI s x:Nat):=IntWalk.i64_in _ (by omega);have hG:=qQ fun W=>aj.out W x aG.out
      generalize kI s x=gn at*;generalize uN s x=gp at*;generalize uY s x=gk at*;clear B l ab Z G ap aH z;generalize hq:a.length=q at*;go_wp2_with fail;go_quiet ((go_at_call 93;exact Calls.quiet_of_same ((hFr.out _).mono fun _ _ h=>⟨h.1,h.2.symm⟩)));generalize Y:I.drewN _=U at*;have V:U.cell? ⟨b,off+j,none⟩=some (.int .i64 x):=(by rw[<-Y];exact d3);have aD:=qQ (show TSt At c gl gd L N U by rw[<-Y];exact T.out.drewN api _);clear Y d3;go_wp2_with fail;refine(hG.out _).mono ?_;rintro e w5⟨rfl,v⟩;have d5:w5.cell? ⟨b,off+j,none⟩=some (.int .i64 x):=((ze.qm v).cell (World.block_lt_of_cell? U _ V) (by simp)).trans V;have aE:=qQ (aD.out.below api v);clear v V;go_wp2_with fail;go_quiet ((go_at_call 93;exact Calls.quiet_of_same ((hFr.out _).mono fun _ _ h=>⟨h.1,h.2.symm⟩)));go_wp2;refine bodyPost_ret (ot rfl _ _ _) rfl ?_;rw[<-o.out];exact⟨rfl,aE.out.drewN api _⟩
     ·have t6:decide (pos<=(k:Int)*4096+x)=false:=qG B;have aO:IntKind.i64.wrap ((j:Int)+1)=(j:Int)+1:=IntWalk.i64_in _ (by have:=az.out;unfold maxLen at this;omega)
      have av:∀y∈a.take (j+1),¬pos<=(k:Int)*4096+y:=by
       intro y f;rw[List.take_add_one,l]at f;rcases qC.1 f with f|f
       ·exact P.out y f
       ·obtain rfl:y=x:=(by simpa using f);exact B
      have aA:=qQ av;have ae:=qQ z;clear av B l ab Z G ap z;generalize hq:a.length=q at*;go_wp2_with fail;go_quiet ((go_at_call 93;exact Calls.quiet_of_same ((hFr.out _).mono fun _ _ h=>⟨h.1,h.2.symm⟩)));go_wp2;exact⟨⟨j+1,_,by have:=ae.out;omega,by go_num,fun y f=>by have:=aA.out y f;omega,by rw[aF.out,World.drewN_drewN]⟩,by simp[intOf];have:=ae.out;omega⟩
    ·obtain rfl:j=a.length:=(by omega);have e:a.take a.length=a:=qg (qZ _);have o:=qQ ((ah.out (fun y f=>by have:=P.out y (by rw[e];exact f);omega)).symm.trans H.out);have t5:((a.length:Int)==(a.length:Int))=true:=(by simp);have aM:IntKind.i64.wrap ((k:Int)+1)=(k:Int)+1:=IntWalk.i64_in _ (by have:=af.out;omega);clear e Z z;generalize a.length=q at*;go_wp2;exact⟨⟨k+1,N,by go_num,T.out,HW.out,by have:=ac.out;have:=ad.out;omega,o.out,qY (by have:=ag.out;omega)⟩,by simp[intOf];have:=ag.out;omega⟩
  ·have l1:decide ((k:Int)<(L.chunks:Int))=false:=qG (by omega);have e0:L.chunks-k=0:=(by omega);have o:=qQ (show(⟨ByteArray.empty,0,0,4,d⟩:lV)=uA (L.chunks-g) g D pos from by rw[<-H.out,e0];rfl);clear M aa e0;generalize (L.chunks:Int)=n at*;go_wp2;refine bodyPost_ret (ot rfl _ _ _) rfl ?_;rw[<-o.out];exact⟨rfl,HT.out⟩
theorem Fu(b:c.m=ptr gl)(h:TSt At c gl gd L D w)(ok:WfP D)(g:D.count<=1000000000)(pos:Int)(hw:(Lit.int .i64 pos).wf=true)(f:L.chunks<=200):Calls prog 43 #[ptr gl,.int .i64 pos] w (JE At c gl gd L (oj D L pos)):=by
 unfold oj;by_cases a:vU D L=0
 ·rw[qJ (by simp[a])];exact Fy api nap cap b h ok g pos hw f a
 ·rw[qK a];have j:=qQ (lY api b h);have t:((vU D L:Int) != 0)=true:=by simp;omega
  generalize vU D L=y at*;clear h ok g hw f a b;go_enter func43,ntmps43;go_wp2;go_step3;go_wp2_with fail;refine j.out.mono ?_;rintro e k⟨rfl,d⟩;have i:=qQ d;clear d;go_wp2;refine bodyPost_ret (ot rfl _ _ _) rfl ?_;exact⟨rfl,i.out⟩
end
section
variable {At:jK}(api:jY At){c:Ctx}{gl gd:Nat}{L L':jV}{D D':zr}{w w':World}{B1 B2 B3:Nat}{nm s:Tw}
include api
theorem Fb(h:TSt At c gl gd L D w)(ok:WfP D):Calls prog 77 #[ptr gl] w (kU At c gl gd (err (vG D).1) L (vG D).2):=by
 have f:=qQ (h.qi api (fun F hF=>api.delete jH hF ok.ok me));have c1:=h.cells.2.1;have i:(⟨#[110,101,119]⟩:Tw)=jH:=rfl;unfold vG;by_cases b:(jL D jH).1=4
 ·rw[qK b];rw[b]at f;generalize jL D jH=r at*;clear h ok b;go_enter func77,ntmps77;go_wp2_with fail;refine f.out.mono ?_;rintro e g⟨rfl,a⟩;have d:=qQ a;clear a;go_wp2;go_ret;exact⟨rfl,d.out⟩
 ·rw[qJ b];have t:(((jL D jH).1:Int) != 4)=true:=by simp;omega
  generalize jL D jH=r at*;clear h ok b;go_enter func77,ntmps77;go_wp2_with fail;refine f.out.mono ?_;rintro e g⟨rfl,a⟩;have d:=qQ a;clear a;go_wp2;go_ret;exact⟨rfl,d.out⟩
variable (nap:jz)
include nap
theorem Fc(h:TSt At c gl gd L D w)(ok:WfP D)(n e:Nat)(y:n<=200)(z:s.size<=1048576)(v:e<=1048576)(o:e<=s.size∨s.size<12):Calls prog 127 #[ptr gl,.int .i64 (n:Nat),.string s,.int .i64 (e:Nat)] w (kU At c gl gd (err (cM D L n s e).1) (cM D L n s e).2.2 (cM D L n s e).2.1):=by
 have t:=qQ fun W=>fW nap n W (by omega)
 have i:=dH (n:=n) (by omega);have q:=qQ h;unfold cM;by_cases m:s.size<12
 ·rw[qK m];have K:decide ((s.size:Int)<12)=true:=qW (by omega);have J:=qQ fun(W:World) (l:TSt At c gl gd { L with chunks:=n } D W)=>l.qi api (fun F hF=>api.delete (nmC n) hF ok.ok i)
  generalize nmC n=nm at*;generalize jL D nm=r at*;clear h ok y z v o m i;go_enter func127,ntmps127;go_wp2_with fail;refine(t.out _).mono ?_;rintro e C⟨rfl,f⟩;have b:=q.out.below api f;have P:=b.cells.2.2.2.1;have Q:=b.frozen 3;have a:=b.xy api n;have A:=a.cells.2.1;have j:=qQ a;clear f b a;go_wp2_with fail;refine(J.out _ j.out).mono ?_;rintro e G⟨rfl,d⟩;have k:=qQ d;clear d;go_wp2;go_ret;exact⟨rfl,k.out⟩
 rw[qJ m];have o:e<=s.size:=by omega
 have K:decide ((s.size:Int)<12)=false:=qG (by omega);have hFr:=qQ fun(W:World)=>ov n W (by omega)
 have R:IntKind.i64.wrap ((n:Int)*4096+(e:Int))=(n:Int)*4096+(e:Int):=IntWalk.i64_in _ (by omega);have B:=qQ (show((4096*n+e:Nat):Int)=(n:Int)*4096+(e:Int) by omega);by_cases p:e<s.size
 ·rw[qK p];have M:decide ((e:Int)<(s.size:Int))=true:=qW (by omega);have N:decide (e<s.size)=true:=qW (by omega);have S:(0:Int)<=(e:Int):=by omega
  have T:(e:Int)<=(s.size:Int):=by omega
  have u:=qQ fun(W:World) (l:TSt At c gl gd { L with endp:=4096*n+e } D W)=>FX api l ok i (s:=s.extract 0 e) (by rw[qS];omega)
  dsimp only[onD];generalize dF D (nmC n) (s.extract 0 e)=r at*;generalize nmC n=nm at*;clear h ok y z v o m i p;go_enter func127,ntmps127;go_wp2_with fail;refine(t.out _).mono ?_;rintro e C⟨rfl,f⟩;have b:=q.out.below api f;have g:=qQ b;clear f b;go_wp2_with fail;refine(hFr.out _).mono ?_;rintro e O⟨rfl,rfl⟩;have H:=g.out.cells.2.2.2.2.1;have I:=g.out.frozen 4;have a:=g.out.xI api (4096*n+e);rw[B.out]at a;have A:=a.cells.2.1;have j:=qQ a;clear a;go_wp2_with fail;refine(u.out _ j.out).mono ?_;rintro e G⟨rfl,d⟩;have k:=qQ d;clear d;go_wp2;go_ret;exact⟨rfl,k.out⟩
 ·rw[qJ p];have M:decide ((e:Int)<(s.size:Int))=false:=qG (by omega);have N:decide (e<s.size)=false:=qG (by omega);have u:=qQ fun(W:World) (l:TSt At c gl gd { L with endp:=4096*n+e } D W)=>l.qi api (fun F hF=>api.sync (nmC n) hF ok.ok i)
  dsimp only[onD];generalize j6 D (nmC n)=r at*;generalize nmC n=nm at*;clear h ok y z v o m i p;go_enter func127,ntmps127;go_wp2_with fail;refine(t.out _).mono ?_;rintro e C⟨rfl,f⟩;have b:=q.out.below api f;have g:=qQ b;clear f b;go_wp2_with fail;refine(hFr.out _).mono ?_;rintro e O⟨rfl,rfl⟩;have H:=g.out.cells.2.2.2.2.1;have I:=g.out.frozen 4;have a:=g.out.xI api (4096*n+e);rw[B.out]at a;have A:=a.cells.2.1;have j:=qQ a;clear a;go_wp2_with fail;refine(u.out _ j.out).mono ?_;rintro e G⟨rfl,d⟩;have k:=qQ d;clear d;go_wp2;go_ret;exact⟨rfl,k.out⟩
end
section
variable {At:jK}{c:Ctx}{gl gd:Nat}{L L':jV}{D D':zr}{w w':World}
theorem TSt.strs(api:jY At)(h:TSt At c gl gd L D w){f:FuncId}{n:Array Value}{l:List Tw}(G:∀F,At w c.base gd F D->Calls prog f n w (Qd At c.base gd F w l D')):
  Calls prog f n w (fun e w'=>∃v,e = .returned v/\yQ w' v l/\(∀b,v.ownBlock=some b->b≠gl)/\TSt At c gl gd L D' w'):=by
 obtain⟨F,z,g,o,p,q,A,B⟩:=h;refine(G F z).mono ?_;rintro e w'⟨t,v,u,C,H,y,d,a⟩;refine⟨v,u,C,fun b i e=>(by have:=(H b i).1;have:=g.lt;omega),t,y,g.qa a o,fun j=>?_,fun x m=>?_,q.trans a (fun x m=>?_),qR A a.size,fun b i=>?_⟩
 ·rcases d gl j with k|k
  ·exact o k
  ·have:=g.lt;omega
 ·rcases d x m with k|k
  ·exact p x k
  ·exact qY (by have:=q.size;omega)
 ·rcases p x m with k|k
  ·exact qX (qF _ k)
  ·exact qY k
 ·obtain⟨I,J,r,K,M⟩:=B b i;refine⟨I,J,fun j=>?_,K,(a.block b (by omega) r).trans M⟩;rcases d b j with k|k
  ·exact r k
  ·omega
theorem JF{l:List Tw}{s:Tw}{c:Nat}(h:isC s=false):vy (s::l) c=vy l c:=by
 unfold vy;rw[qJ (by simp[h])];split<;>rfl
theorem Fh{l:List Tw}{s:Tw}{c:Nat}(h:isC s=true)(a:npN s≠c∨200<=npN s):vy (s::l) c=(63,c):=by
 unfold vy;rw[qK h,qK a]
theorem Fl{l:List Tw}{s:Tw}{c:Nat}(h:isC s=true)(a:¬(npN s≠c∨200<=npN s)):vy (s::l) c=vy l (c+1):=by
 unfold vy;rw[qK h,qJ a];split<;>rfl
end
theorem Fp{w:World}{v:Value}{l:List Tw}(h:yQ w v l):∃A off cap,v = .slice A l.length cap/\l.length<=maxLen/\∀i x,l[i]? = some x->∃b,A=some ⟨b,off,none⟩/\w.cell? ⟨b,off+i,none⟩=some (.string x):=by
 rcases h with⟨rfl,a,c,rfl⟩|⟨b,off,cap,d,j,k,m,f⟩
 ·exact⟨a,0,c,rfl,qH _,fun i x h=>by simp at h⟩
 ·exact⟨some ⟨b,off,none⟩,off,cap,d,by omega,fun i x g=>⟨b,rfl,f i x g⟩⟩
theorem Fs(s:Tw):npN s<=999999:=by
 cases h:kR s
 ·rw[(mW h).2];omega
 ·exact(XX h).1
theorem Fa(s:Tw):npK s<256:=by
 cases h:kR s
 ·rw[(mW h).1];omega
 ·rcases(XX h).2 with h|h|h<;>omega
section
variable {At:jK}(api:jY At)(nap:jz){c:Ctx}{gl gd:Nat}{L L':jV}{D D':zr}{w w':World}
include api nap
theorem Fe(h:TSt At c gl gd L D w)(ok:WfP D)(V:L.chunks=0)(ae:∀f∈D.l,f.name.size<=maxLen):Calls prog 78 #[ptr gl] w (kU At c gl gd (err (yE D L).1) (yE D L).2.2 (yE D L).2.1):=by
 have hS:=qQ (h.strs api (fun F hF=>api.names hF ok.ok));have c1:=h.cells.2.1;have ac:(D.l.map zi.name).length<=400:=by rw[qj];exact ok.many
 have af:∀x∈D.l.map zi.name,x.size<=maxLen:=by
  intro x j;obtain⟨f,hf,rfl⟩:=qN.1 j;exact ae f hf
 unfold yE;generalize D.l.map zi.name=d at*;have HL:=qQ ac;have HZ:=qQ af;have H0:=qQ V;clear h ok V ae ac af;go_enter func78,ntmps78;go_wp2_with fail;refine hS.out.mono ?_;rintro e w1⟨v,rfl,hs,hv,X⟩;obtain⟨A,off,cp,rfl,ag,Z⟩:=Fp hs;have HC:=qQ Z;have HV:=qQ hv;have H1:=qQ X;clear hs ag Z hv X;go_wp2;go_loopw [14] (fun i wr=>∃k g:Nat,k<=d.length/\i = .int .i64 k/\g<=k/\vy (d.drop k) g=vy d L.chunks/\TSt At c gl gd { L with chunks:=g } D wr/\ze [gl] w1 wr) (fun i _=>d.length-(intOf i).toNat)
 case atStart=>exact⟨0,L.chunks,qH _,rfl,by rw[H0.out];exact qZ _,rfl,H1.out,ze.refl _ _⟩
 case round =>
  obtain⟨k,g,hk,rfl,aa,ab,Y,ht⟩:=hrel;have y:=qQ Y;have P:=qQ ht;have m:=qQ ab;have O:=qQ aa;clear Y ht ab aa;by_cases t:k<d.length
  ·have j:d[k]? = some d[k]:=qD t;have G:d.drop k=d[k]::d.drop (k+1):=List.drop_eq_getElem_cons t;obtain⟨b,rfl,z⟩:=HC.out k _ j;have H:=HZ.out _ (List.getElem_mem t);generalize d[k]=x at*;have a:b≠gl:=HV.out b rfl;have ah:=(P.out.cell (World.block_lt_of_cell? w1 _ z) (by simpa using a)).trans z;have u:=qQ fun(W:World)=>nap.parse x W H
   have l1:(k:Int)<(d.length:Int):=(by omega);have K:=HL.out;have N:=Fs x;have M:=Fa x;have c3:=y.out.cells.2.2.2.1;have ai:IntKind.i64.wrap ((g:Int)+1)=(g:Int)+1:=IntWalk.i64_in _ (by have:=O.out;omega);have aj:IntKind.i64.wrap ((k:Int)+1)=(k:Int)+1:=IntWalk.i64_in _ (by omega);rw[G]at m;have C:=qQ t;cases r:kR x
   case false =>
    have o:isC x=false:=(by unfold isC;rw[r];rfl);rw[JF o]at m;rw[r]at u;generalize npK x=kk at*;generalize npN x=S at*;generalize R:d.length=q at*;clear j G z H a K N M r o t;go_wp2_with fail;refine(u.out _).mono ?_;rintro e T⟨rfl,a⟩;have n:=qQ (y.out.below api a);have I:=qQ (P.out.trans (ze.qm a) (fun x j=>by cases j));clear a;go_wp2;exact⟨⟨k+1,g,by have:=C.out;omega,by go_num,by have:=O.out;omega,m.out,n.out,I.out⟩,by simp[intOf];have:=C.out;omega⟩
   rw[r]at u;by_cases B:npK x=99
   case neg =>
    have o:isC x=false:=(by unfold isC;rw[r];simp[B]);rw[JF o]at m;have t1:((npK x:Int) != 99)=true:=(by simp;omega);generalize npK x=kk at*;generalize npN x=S at*;generalize R:d.length=q at*;clear j G z H a K N M r o t B;go_wp2_with fail;refine(u.out _).mono ?_;rintro e T⟨rfl,a⟩;have n:=qQ (y.out.below api a);have I:=qQ (P.out.trans (ze.qm a) (fun x j=>by cases j));clear a;go_wp2;exact⟨⟨k+1,g,by have:=C.out;omega,by go_num,by have:=O.out;omega,m.out,n.out,I.out⟩,by simp[intOf];have:=C.out;omega⟩
   have o:isC x=true:=(by unfold isC;rw[r,B];rfl);rw[B]at u;by_cases J:npN x≠g∨200<=npN x
   ·rw[Fh o J]at m;by_cases ad:npN x=g
    ·have t2:((npN x:Int) != (g:Int))=false:=(by simp;omega);have t3:decide ((200:Int)<=(npN x:Int))=true:=qW (by omega);generalize npN x=S at*;generalize R:d.length=q at*;clear j G z H a K N M r o t B J ad;go_wp2_with fail;refine(u.out _).mono ?_;rintro e T⟨rfl,a⟩;have n:=qQ (y.out.below api a);have U:=n.out.cells.2.2.2.1;clear a;go_wp2;go_ret;rw[<-m.out];exact⟨rfl,n.out⟩
    ·have t2:((npN x:Int) != (g:Int))=true:=(by simp;omega);generalize npN x=S at*;generalize R:d.length=q at*;clear j G z H a K N M r o t B J ad;go_wp2_with fail;refine(u.out _).mono ?_;rintro e T⟨rfl,a⟩;have n:=qQ (y.out.below api a);have U:=n.out.cells.2.2.2.1;clear a;go_wp2;go_ret;rw[<-m.out];exact⟨rfl,n.out⟩
   ·rw[Fl o J]at m;have t2:((npN x:Int) != (g:Int))=false:=(by simp;omega);have t3:decide ((200:Int)<=(npN x:Int))=false:=qG (by omega);generalize npN x=S at*;generalize R:d.length=q at*;clear j G z H a K N M r o t B J;go_wp2_with fail;refine(u.out _).mono ?_;rintro e T⟨rfl,a⟩;have Q:=y.out.below api a;have U:=Q.cells.2.2.2.1;have f3:=Q.frozen 3;have n:=qQ (Q.xy api (g+1));have I:=qQ ((P.out.trans (ze.qm a) (fun x j=>by cases j)).setCell (p:=⟨gl,3,none⟩) (qX (qE.2 rfl)) (.int .i64 ((g+1:Nat):Int)));clear a Q;go_wp2;exact⟨⟨k+1,g+1,by have:=C.out;omega,by go_num,by have:=O.out;omega,m.out,n.out,I.out⟩,by simp[intOf];have:=C.out;omega⟩
  ·obtain rfl:k=d.length:=(by omega);rw[List.drop_length]at m;have l1:decide ((d.length:Int)<(d.length:Int))=false:=qG (by omega);generalize d.length=q at*;go_wp2;go_ret;rw[<-m.out];exact⟨rfl,y.out⟩
end
theorem JH(s:Tw):∀(n k:Nat),k<=s.size->whE s n k<=s.size
 | 0,k,h=>h
 | n+1,k,h=>by
   unfold whE;split
   ·exact JH s n _ (X7 _ _)
   ·exact h
theorem Fi(s:Tw)(n:Int):scE s n<=s.size:=by
 unfold scE wlE;split
 ·split
  ·rename_i h;exact JH s _ _ (by omega)
  ·exact qH _
 ·exact qH _
theorem Fo{k n:Nat}{D:zr}{L:jV}(h:(rdC D (nmC n)).2.1≠0):yY (k+1) n D L=((rdC D (nmC n)).2.1,(rdC D (nmC n)).2.2,L):=by unfold yY;rw[qK h]
theorem Hq{k n:Nat}{D:zr}{L:jV}(h:(rdC D (nmC n)).2.1=0)(a:uO (rdC D (nmC n)).1 (n:Nat)=false):yY (k+1) n D L=(63,(rdC D (nmC n)).2.2,L):=by
 unfold yY;rw[qJ (by simp[h]),qK a]
theorem Hx{n:Nat}{D:zr}{L:jV}(h:(rdC D (nmC n)).2.1=0)(a:uO (rdC D (nmC n)).1 (n:Nat)=true):yY (0+1) n D L=cM (rdC D (nmC n)).2.2 L n (rdC D (nmC n)).1 (scE (rdC D (nmC n)).1 (n:Nat)):=by
 unfold yY;rw[qJ (by simp[h]),qJ (by simp[a]),qK rfl]
theorem JI{k n:Nat}{D:zr}{L:jV}(d:k≠0)(h:(rdC D (nmC n)).2.1=0)(a:uO (rdC D (nmC n)).1 (n:Nat)=true)(b:(rdC D (nmC n)).1.size<12∨scE (rdC D (nmC n)).1 (n:Nat)<(rdC D (nmC n)).1.size):yY (k+1) n D L=(63,(rdC D (nmC n)).2.2,L):=by
 unfold yY;rw[qJ (by simp[h]),qJ (by simp[a]),qJ d,qK b]
theorem Hz{k n:Nat}{D:zr}{L:jV}(d:k≠0)(h:(rdC D (nmC n)).2.1=0)(a:uO (rdC D (nmC n)).1 (n:Nat)=true)(b:¬((rdC D (nmC n)).1.size<12∨scE (rdC D (nmC n)).1 (n:Nat)<(rdC D (nmC n)).1.size)):yY (k+1) n D L=yY k (n+1) (rdC D (nmC n)).2.2 { L with endp:=4096*n+scE (rdC D (nmC n)).1 (n:Nat) }:=by
 rw[yY,qJ (by simp[h]),qJ (by simp[a]),qJ d,qJ b]
section
variable {At:jK}(api:jY At)(nap:jz)(cap:kc){c:Ctx}{gl gd:Nat}{L L':jV}{D D':zr}{w w':World}
include api nap cap
theorem Hj(h:TSt At c gl gd L D w)(ok:WfP D)(T:D.count<=1000000000)(hc:L.chunks<=200):Calls prog 79 #[ptr gl] w (kU At c gl gd (err (bc D L).1) (bc D L).2.2 (bc D L).2.1):=by
 have H0:=qQ h;have c3:=h.cells.2.2.2.1;unfold bc;have OK:=qQ ok;have ah:=qQ T;have HC:=qQ hc;obtain⟨n,hn⟩:∃n:Int,(L.chunks:Int)=n:=⟨_,rfl⟩
 rw[hn]at c3;have M:=qQ hn;clear h ok T hc hn;go_enter func79,ntmps79;go_wp2;go_loopw [13] (fun i wr=>∃(k:Nat) (a:zr) (g:jV),i = .int .i64 k/\TSt At c gl gd g a wr/\WfP a/\a.count<=1000000000+k/\g.chunks=L.chunks/\yY (L.chunks-k) k a g=yY L.chunks 0 D L/\k<=L.chunks) (fun i _=>L.chunks-(intOf i).toNat)
 case atStart=>exact⟨0,D,L,rfl,H0.out,OK.out,by have:=ah.out;omega,rfl,rfl,qH _⟩
 case round =>
  obtain⟨k,a,g,rfl,hT,ag,T,ad,hk,ac⟩:=hrel;have HT:=qQ hT;have B:=qQ hk;have ab:=qQ ag;have ae:=qQ T;have ai:=qQ ad;have P:=qQ (show(g.chunks:Int)=n by rw[ad];exact M.out);have aj:=qQ ac;clear hT hk ag T ad;by_cases F:k<L.chunks
  ·have N:=HC.out;have l1:decide ((k:Int)<n)=true:=qW (by have:=M.out;omega);have am:IntKind.i64.wrap ((k:Int)+1)=(k:Int)+1:=IntWalk.i64_in _ (by omega);have al:IntKind.i64.wrap (n-1)=n-1:=IntWalk.i64_in _ (by have:=M.out;omega);have H:=qQ (Zi api nap HT.out ab.out (by have:=ae.out;omega) k (by omega));have I:=Zt (n:=nmC k) ab.out;have G:=qQ (sa ab.out (nmC k));have K:=qQ (Ze a (nmC k));have p:L.chunks-k=(L.chunks-(k+1))+1:=(by omega);have af:=qQ F;clear ac;by_cases o:(rdC a (nmC k)).2.1=0
   case neg =>
    have d:=qQ (Fo (k:=L.chunks-(k+1)) (L:=g) o);rw[<-p]at d;have m:=qQ (d.out.symm.trans B.out);have t1:(((rdC a (nmC k)).2.1:Int) != 0)=true:=(by simp;omega);generalize rdC a (nmC k)=R at*;obtain⟨s,y,J⟩:=R;dsimp only at*;clear F N I p o d G K;go_wp2_with fail;refine H.out.mono ?_;rintro e U⟨rfl,f⟩;have t:=qQ f;clear f;go_wp2;go_ret;rw[<-m.out];exact⟨rfl,t.out⟩
   have C:=qQ fun(W:World)=>cap.scan (rdC a (nmC k)).1 (k:Nat) W (by omega) (bY (by omega))
   unfold fG at C;have O:=Fi (rdC a (nmC k)).1 (k:Nat);rw[o]at H;cases r:uO (rdC a (nmC k)).1 (k:Nat)
   case false =>
    have d:=qQ (Hq (k:=L.chunks-(k+1)) (L:=g) o r);rw[<-p]at d;have m:=qQ (d.out.symm.trans B.out);rw[r]at C;generalize rdC a (nmC k)=R at*;obtain⟨s,y,J⟩:=R;dsimp only at*;generalize scE s (k:Nat)=Q at*;generalize scL s (k:Nat)=pl at*;clear F N I p o d G K r O;go_wp2_with fail;refine H.out.mono ?_;rintro e U⟨rfl,f⟩;have t:=qQ f;clear f;go_wp2_with fail;refine(C.out _).mono ?_;rintro e w3⟨u,rfl,l,j⟩;obtain⟨A,off,V,rfl,-,-⟩:=l.cell;have b:=qQ (t.out.below api j);have v:=b.out.cells.2.2.2.1;rw[P.out]at v;have Y:=b.out.frozen 4;have X:=b.out.cells.2.2.2.2.1;clear j l;go_wp2;go_ret;rw[<-m.out];exact⟨rfl,b.out⟩
   rw[r]at C;by_cases aa:k+1=L.chunks
   ·have z:L.chunks-(k+1)=0:=(by omega);have d:=qQ (Hx (L:=g) o r);rw[p,z]at B;have m:=qQ (d.out.symm.trans B.out);have t2:((k:Int)==n-1)=true:=(by simp;have:=M.out;omega);have hM:=qQ fun(W:World) (hT:TSt At c gl gd g (rdC a (nmC k)).2.2 W)=>Fc api nap hT G.out k (scE (rdC a (nmC k)).1 (k:Nat)) (s:=(rdC a (nmC k)).1) (by omega) I (by omega) (qX O)
    generalize cM (rdC a (nmC k)).2.2 g k (rdC a (nmC k)).1 (scE (rdC a (nmC k)).1 (k:Nat))=mm at*;generalize rdC a (nmC k)=R at*;obtain⟨s,y,J⟩:=R;dsimp only at*;generalize scE s (k:Nat)=Q at*;generalize scL s (k:Nat)=pl at*;clear F N I p o d G K r O aa z;go_wp2_with fail;refine H.out.mono ?_;rintro e U⟨rfl,f⟩;have t:=qQ f;clear f;go_wp2_with fail;refine(C.out _).mono ?_;rintro e w3⟨u,rfl,l,j⟩;obtain⟨A,off,V,rfl,-,-⟩:=l.cell;have b:=qQ (t.out.below api j);have v:=b.out.cells.2.2.2.1;rw[P.out]at v;have Y:=b.out.frozen 4;have X:=b.out.cells.2.2.2.2.1;clear j l;go_wp2_with fail;refine(hM.out _ b.out).mono ?_;rintro e w4⟨rfl,h4⟩;have H4:=qQ h4;clear h4;go_wp2;go_ret;rw[<-m.out];exact⟨rfl,H4.out⟩
   have z:L.chunks-(k+1)≠0:=(by omega);have t2:((k:Int)==n-1)=false:=(by simp;have:=M.out;omega);by_cases Z:(rdC a (nmC k)).1.size<12
   ·have d:=qQ (JI (L:=g) z o r (qX Z));rw[<-p]at d;have m:=qQ (d.out.symm.trans B.out);have t3:decide (((rdC a (nmC k)).1.size:Int)<12)=true:=qW (by omega);generalize rdC a (nmC k)=R at*;obtain⟨s,y,J⟩:=R;dsimp only at*;generalize scE s (k:Nat)=Q at*;generalize scL s (k:Nat)=pl at*;clear F N I p o d G K r O aa z Z;go_wp2_with fail;refine H.out.mono ?_;rintro e U⟨rfl,f⟩;have t:=qQ f;clear f;go_wp2_with fail;refine(C.out _).mono ?_;rintro e w3⟨u,rfl,l,j⟩;obtain⟨A,off,V,rfl,-,-⟩:=l.cell;have b:=qQ (t.out.below api j);have v:=b.out.cells.2.2.2.1;rw[P.out]at v;have Y:=b.out.frozen 4;have X:=b.out.cells.2.2.2.2.1;clear j l;go_wp2;go_ret;rw[<-m.out];exact⟨rfl,b.out⟩
   have t3:decide (((rdC a (nmC k)).1.size:Int)<12)=false:=qG (by omega);by_cases S:scE (rdC a (nmC k)).1 (k:Nat)<(rdC a (nmC k)).1.size
   ·have d:=qQ (JI (L:=g) z o r (qY S));rw[<-p]at d;have m:=qQ (d.out.symm.trans B.out);have t4:decide (scE (rdC a (nmC k)).1 (k:Nat)<(rdC a (nmC k)).1.size)=true:=qW S;have t5:decide ((scE (rdC a (nmC k)).1 (k:Nat):Int)<((rdC a (nmC k)).1.size:Int))=true:=qW (by omega);generalize rdC a (nmC k)=R at*;obtain⟨s,y,J⟩:=R;dsimp only at*;generalize scE s (k:Nat)=Q at*;generalize scL s (k:Nat)=pl at*;clear F N I p o d G K r O aa z Z S;go_wp2_with fail;refine H.out.mono ?_;rintro e U⟨rfl,f⟩;have t:=qQ f;clear f;go_wp2_with fail;refine(C.out _).mono ?_;rintro e w3⟨u,rfl,l,j⟩;obtain⟨A,off,V,rfl,-,-⟩:=l.cell;have b:=qQ (t.out.below api j);have v:=b.out.cells.2.2.2.1;rw[P.out]at v;have Y:=b.out.frozen 4;have X:=b.out.cells.2.2.2.2.1;clear j l;go_wp2;go_ret;rw[<-m.out];exact⟨rfl,b.out⟩
   have t4:decide (scE (rdC a (nmC k)).1 (k:Nat)<(rdC a (nmC k)).1.size)=false:=qG S;have t5:decide ((scE (rdC a (nmC k)).1 (k:Nat):Int)<((rdC a (nmC k)).1.size:Int))=false:=qG (by omega);have d:=qQ (Hz (L:=g) z o r (by omega));rw[<-p]at d;have m:=qQ (d.out.symm.trans B.out);have hFr:=qQ fun(W:World)=>ov k W (by omega)
   have ak:IntKind.i64.wrap ((k:Int)*4096+(scE (rdC a (nmC k)).1 (k:Nat):Nat))=(k:Int)*4096+(scE (rdC a (nmC k)).1 (k:Nat):Nat):=IntWalk.i64_in _ (by omega);have eE:=qQ (show((4096*k+scE (rdC a (nmC k)).1 (k:Nat):Nat):Int)=(k:Int)*4096+(scE (rdC a (nmC k)).1 (k:Nat):Nat) by omega);generalize rdC a (nmC k)=R at*;obtain⟨s,y,J⟩:=R;dsimp only at*;generalize scE s (k:Nat)=Q at*;generalize scL s (k:Nat)=pl at*;clear F N I p o d r O aa z Z S;go_wp2_with fail;refine H.out.mono ?_;rintro e U⟨rfl,f⟩;have t:=qQ f;clear f;go_wp2_with fail;refine(C.out _).mono ?_;rintro e w3⟨u,rfl,l,j⟩;obtain⟨A,off,V,rfl,-,-⟩:=l.cell;have b:=qQ (t.out.below api j);have v:=b.out.cells.2.2.2.1;rw[P.out]at v;have Y:=b.out.frozen 4;have X:=b.out.cells.2.2.2.2.1;clear j l;go_wp2_with fail;refine(hFr.out _).mono ?_;rintro e w4⟨rfl,rfl⟩;have h5:=b.out.xI api (4096*k+Q);rw[eE.out]at h5;have H5:=qQ h5;clear h5;go_wp2;exact⟨⟨k+1,J,_,by go_num,H5.out,G.out,by have:=ae.out;have:=K.out;omega,ai.out,m.out,by have:=af.out;omega⟩,by simp[intOf];have:=af.out;omega⟩
  ·obtain rfl:k=L.chunks:=(by omega);have l1:decide ((L.chunks:Int)<n)=false:=qG (by have:=M.out;omega);have e0:L.chunks-L.chunks=0:=Nat.sub_self _;have m:=qQ (show(0,a,g)=yY L.chunks 0 D L from by rw[<-B.out,e0];rfl);clear F ac e0;generalize (L.chunks:Int)=q at*;go_wp2;go_ret;rw[<-m.out];exact⟨rfl,HT.out⟩
end
def DSt(At:jK)(c:Ctx)(gd:Nat)(D:zr)(w:World):Prop :=
 ∃F,At w c.base gd F D/\(∀x∈F,x∈c.F0∨c.w0.heap.size<=x)/\ze c.F0 c.w0 w/\c.wG.heap.size<=w.heap.size/\∀b∈c.G,c.w0.heap.size<=b/\b<c.wG.heap.size/\b ∉ F/\w.heap[b]? = c.wG.heap[b]?
theorem tK: ∀(l:List Tw) (c:Nat),c<=200->(vy l c).2<=200
 | [],c,h=>h
 | s::r,c,h=>by
   unfold vy;split
   ·split
    ·exact h
    ·exact tK r (c+1) (by omega)
   ·exact tK r c h
theorem JL{D:zr}(h:WfP D):WfP (vG D).2:=by
 unfold vG;split<;>exact lK h _
section
variable {At:jK}{c:Ctx}{gl gd:Nat}{L L':jV}{D D':zr}{w w':World}
theorem TSt.drop(h:TSt At c gl gd L D w)(l:c.w0.heap.size<=gl):DSt At c gd D w:=by
 obtain⟨F,d,q,r,f,g,i,j⟩:=h;refine⟨F,d,f,g.more (fun x a=>?_),i,fun b k=>?_⟩
 ·rcases qL.1 a with rfl|a
  ·exact qY l
  ·exact qX a
 ·obtain⟨m,n,o,t,p⟩:=j b k;exact⟨m,n,o,p⟩
theorem DSt.log(api:jY At)(h:DSt At c gd D w)(L:jV):TSt At { c with m:=.pointer none } w.heap.size gd L D (w.alloc (.cells (gM (.pointer none) gd L) 130)):=by
 obtain⟨F,i,j,k,d,l⟩:=h;have a:ze [] w (w.alloc (.cells (gM (.pointer none) gd L) 130)):=(ze.refl [] w).alloc _;have o:=api.low i;refine⟨F,api.qa i a (fun _ _=>by simp),za.new w _ _,fun p=>(by have:=(o _ p).2;omega),j,(k.trans a (fun x f=>by cases f)).more (fun x f=>qX (qF _ f)),qR d a.size,fun b n=>?_⟩;obtain⟨q,g,r,t⟩:=l b n;exact⟨q,g,r,Nat.ne_of_lt (qP g d),(a.block b (qP g d) (by simp)).trans t⟩
theorem TSt.names(api:jY At)(h:TSt At c gl gd L D w):∀f∈D.l,f.name.size<=maxLen:=by
 obtain⟨F,a,_⟩:=h;intro f b;have:=(api.qo a).2 f b;unfold ky at this;simp only[Bool.and_eq_true,decide_eq_true_eq]at this;unfold maxLen;omega
theorem TSt.zP(api:jY At)(h:TSt At c gl gd L D w)(v:Value):TSt At { c with m:=v } gl gd L D (w.setCell ⟨gl,0,none⟩ v):=by
 obtain⟨F,i,j,f,k,l,n,o⟩:=h;have a:ze [gl] w (w.setCell ⟨gl,0,none⟩ v):=(ze.refl [gl] w).setCell (p:=⟨gl,0,none⟩) (qX (qE.2 rfl)) _;refine⟨F,api.qa i a (fun x d r=>f (by rw[<-qE.1 r];exact d)),j.put 0 v,f,k,l.trans a (fun x d=>qX (by rw[qE.1 d];exact qB)),qR n a.size,fun b q=>?_⟩;obtain⟨t,u,y,g,z⟩:=o b q;exact⟨t,u,y,g,(a.block b (by omega) (by simpa using g)).trans z⟩
end
def JM(At:jK)(c:Ctx)(gd:Nat)(w:World)(r:Nat × zr × jV)(e:Ending)(w':World):Prop :=
 (r.1=0/\∃gl,e = .returned (.tuple #[ptr gl,.int .i64 0])/\w.heap.size<=gl/\TSt At { c with m:=ptr gl } gl gd { r.2.2 with sure:=r.2.2.endp } r.2.1 w') ∨
 (r.1≠0/\e = .returned (.tuple #[.pointer none,err r.1])/\DSt At c gd r.2.1 w')
section
variable {At:jK}(api:jY At)(nap:jz)(cap:kc){c:Ctx}{gl gd:Nat}{L L':jV}{D D':zr}{w w':World}
include api nap cap
theorem Hk{B4:Nat}(h:TSt At c gl gd ⟨D.qn,0,0,0⟩ D w)(ok:WfP D)(r:D.count<=1000000000)
  (o:B4∈c.G) (p:TypeId) (m:za c.wG B4 p #[.func (.func 77) #[ptr gl] #[],.func (.func 78) #[ptr gl] #[],.func (.func 79) #[ptr gl] #[]]):
  Calls prog 76 #[.slice (some ⟨B4,0,none⟩) 3 3] w (kU At c gl gd (err (y9 D).1) (y9 D).2.2 (y9 D).2.1):=by
 have j:WfP (vG D).2:=JL ok
 have l:(vG D).2.count<=1000000000:=by
  have:(vG D).2.count=D.count:=by
   unfold vG
   have:(jL D jH).2.count=D.count:=by
    unfold jL vw;split
    ·rfl
    ·split
     ·split<;>rfl
     ·rfl
   split<;>exact this
  omega
 have H:=si (b:=B4) (n:=3) (by omega) (yU (vG D).1 (yE (vG D).2 ⟨D.qn,0,0,0⟩).1 (bc (yE (vG D).2 ⟨D.qn,0,0,0⟩).2.1 (yE (vG D).2 ⟨D.qn,0,0,0⟩).2.2).1 0)
  (fun k W=>TSt At c gl gd (yU ⟨D.qn,0,0,0⟩ ⟨D.qn,0,0,0⟩ (yE (vG D).2 ⟨D.qn,0,0,0⟩).2.2 (bc (yE (vG D).2 ⟨D.qn,0,0,0⟩).2.1 (yE (vG D).2 ⟨D.qn,0,0,0⟩).2.2).2.2 k) (yU D (vG D).2 (yE (vG D).2 ⟨D.qn,0,0,0⟩).2.1 (bc (yE (vG D).2 ⟨D.qn,0,0,0⟩).2.1 (yE (vG D).2 ⟨D.qn,0,0,0⟩).2.2).2.1 k) W)
  (yU 77 78 79 0) (yU #[ptr gl] #[ptr gl] #[ptr gl] #[]) (yU #[] #[] #[] #[])
  (fun k d=>by
   match k,d with
   | 0,_=>exact enters_of func77 (by kernel_rfl) rfl
   | 1,_=>exact enters_of func78 (by kernel_rfl) rfl
   | 2,_=>exact enters_of func79 (by kernel_rfl) rfl)
  (fun k W d a=>by
   have q:=(a.qp o m).cell k
   match k,d with
   | 0,_=>exact q
   | 1,_=>exact q
   | 2,_=>exact q)
  (fun k W d a=>by
   match k,d with
   | 0,_=>exact Fb api a ok
   | 1,_=>exact Fe api nap a j rfl (a.names api)
   | 2,_=>exact Hj api nap cap a j l (tK _ 0 (by omega))) w h
 refine H.mono ?_;rintro e w'⟨rfl,a⟩;unfold y9 onD;by_cases f:(vG D).1=0
 ·by_cases g:(yE (vG D).2 ⟨D.qn,0,0,0⟩).1=0
  ·by_cases i:(bc (yE (vG D).2 ⟨D.qn,0,0,0⟩).2.1 (yE (vG D).2 ⟨D.qn,0,0,0⟩).2.2).1=0
   ·simp[stR,yU,vf,f,g,i]at a ⊢;exact⟨by simp,a⟩
   ·simp[stR,yU,vf,f,g,i]at a ⊢;exact⟨rfl,a⟩
  ·simp[stR,yU,vf,f,g]at a ⊢;exact⟨rfl,a⟩
 ·simp[stR,yU,vf,f]at a ⊢;exact⟨rfl,a⟩
theorem JN(h:DSt At c gd D w)(ok:WfP D)(o:D.count<=1000000000):Calls prog 38 #[ptr gd] w (JM At c gd w (y9 D)):=by
 have z:=qQ (show Calls prog 75 #[ptr gd] w fun e w'=>e = .returned (.int .i64 (D.qn:Nat))/\w=w' from api.zW (Classical.choose_spec h).1);have d:=h.log api ⟨D.qn,0,0,0⟩;have f:=d.keep;generalize A:w.heap.size=gl at*;have l:gM (.pointer none) gd ⟨D.qn,0,0,0⟩=#[.pointer none,ptr gd,.int .i64 (D.qn:Nat),.int .i64 0,.int .i64 0,.int .i64 0]:=rfl;rw[l]at d f;generalize U:w.alloc (.cells #[.pointer none,ptr gd,.int .i64 (D.qn:Nat),.int .i64 0,.int .i64 0,.int .i64 0] 130)=G at*;have m:=d.box api (.cells #[.func (.func 77) #[ptr gl] #[],.func (.func 78) #[ptr gl] #[],.func (.func 79) #[ptr gl] #[]] 56);have q:=za.new G 56 #[.func (.func 77) #[ptr gl] #[],.func (.func 78) #[ptr gl] #[],.func (.func 79) #[ptr gl] #[]];have f:=f.alloc (.cells #[.func (.func 77) #[ptr gl] #[],.func (.func 78) #[ptr gl] #[],.func (.func 79) #[ptr gl] #[]] 56);have V:∀(y:Fn) (first cap:Array Value) (w:World),(Instr.makeFunc y first cap).run prog w = .ok (.func y first cap) w:=fun _ _ _ _=>rfl
 have R:=qQ (Hk api nap cap m ok o (by simp) _ q);have v:=qQ f;have u:=qQ d
 have p:c.w0.heap.size<=gl:=by
  obtain⟨F,K,M,H,N,O⟩:=h;rw[<-A];exact H.size
 have C:=qQ p;have B:=qQ A;unfold JM;by_cases i:(y9 D).1=0
 ·rw[i]at R;have k:=qQ i;generalize y9 D=r at*;clear h ok o d m q f i l p;go_enter func38,ntmps38;go_wp2_with fail;refine z.out.mono ?_;rintro e I⟨rfl,rfl⟩;go_wp2_with fail;refine R.out.mono ?_;rintro e J⟨rfl,g⟩;have a:=g.xF u.out v.out rfl rfl rfl rfl (fun b n=>by simp[n]);obtain⟨c0,_,_,_,P,Q⟩:=a.cells;have S:=a.frozen 0;have T:=a.frozen 5;have j:=qQ ((a.zP api (ptr gl)).xr api r.2.2.endp);clear g a;go_wp2;go_ret2;exact qX ⟨k.out,gl,rfl,Nat.le_of_eq B.out,j.out⟩
 ·have t:(((y9 D).1:Int) != 0)=true:=by simp;omega
  have k:=qQ i;generalize y9 D=r at*;clear h ok o d m q f i l p;go_enter func38,ntmps38;go_wp2_with fail;refine z.out.mono ?_;rintro e I⟨rfl,rfl⟩;go_wp2_with fail;refine R.out.mono ?_;rintro e J⟨rfl,g⟩;have a:=g.xF u.out v.out rfl rfl rfl rfl (fun b n=>by simp[n]);have j:=qQ (a.drop C.out);clear g a;go_wp2;go_ret2;exact qY ⟨k.out,rfl,j.out⟩
end
end
end Go.Proofs.YthejglbnkmimjaaGreat
