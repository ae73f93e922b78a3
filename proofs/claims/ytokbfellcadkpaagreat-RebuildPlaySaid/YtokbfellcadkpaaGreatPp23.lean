import Derived.Test.YtokbfellcadkpaaGreatPp20
import Derived.Stop.RegionWithIn
import Derived.Test.YtokbfellcadkpaaGreatPp22
import Derived.ProofKit
set_option linter.unusedVariables false
set_option maxRecDepth 100000
set_option maxHeartbeats 9000000
namespace Go.Proofs.YtokbfellcadkpaaGreat
open Tryz
section
open Go.RowKit Go.Shelf
attribute [local go_sem] Oper.semAt_some
theorem dB.form{a:Nat->Value}{w:World}{v:Value}{l:List Nat}(h:dB a w v l):∃A c,v = .slice A l.length c:=by
 rcases h with⟨rfl,A,c,rfl⟩|⟨_,b,off,c,rfl,_⟩
 ·exact⟨A,c,rfl⟩
 ·exact⟨_,c,rfl⟩
theorem dB.at{a:Nat->Value}{w:World}{A:Option Addr}{c:Nat}{l:List Nat}(h:dB a w (.slice A l.length c) l)(d:0<l.length):
  ∃b off,A=some ⟨b,off,none⟩/\b<w.heap.size/\l.length<=c/\∀i,i<l.length->w.cell? ⟨b,off+i,none⟩=some (a (l.getD i 0)):=by
 rcases h with⟨rfl,_⟩|⟨_,b,off,m,j,g,f,k⟩
 ·cases d
 ·cases j;exact⟨b,off,rfl,f,g,k⟩
theorem qJU(v:Value)(l:List Nat)(p b:Int)(w:World)(n:dB um w v l)(d:(Lit.int .i64 b).wf=true)(a:lN b=false):
  Calls prog 205 #[v,.int .i64 p,.int .i64 b] w fun e w'=>e = .returned (.string (bs (dG l p b)))/\Below w.heap.size w w':=by
 have f:=bounds_i64 d;have k:¬(1<=b/\b<=1000000/\b%8=0):=by unfold lN at a;exact of_decide_eq_false a
 rw[Hq a];go_enter func205,ntmps205;by_cases g:b<1
 ·go_wp2;go_ret;exact⟨rfl,Below.refl _ _⟩
 ·by_cases i:1000000<b
  ·go_wp2;go_ret;exact⟨rfl,Below.refl _ _⟩
  ·obtain⟨m,rfl⟩:∃m:Nat,b=m:=⟨b.toNat,by omega⟩
   have c:¬(m:Int)%8=0:=(by omega);have j:((m:Int)%8 != 0)=true:=(by simpa using c);go_wp2;go_ret;exact⟨rfl,Below.refl _ _⟩
structure CN(w:World)(b p:Int)(n:Nat)(l:List Nat)(k:Nat)(Ds:List Nat)(W:World):Prop where
 box:Boxed W (w.heap.size+1) 109 (.slice (some ⟨w.heap.size,0,none⟩) n n)
 row:RowB W w.heap.size n (fun i=>.int .u8 (byL (dc (l.take k) p b) i:Nat))
 below:Below w.heap.size w W
 defs:gK (w.heap.size+2) Ds W
theorem qJG(v:Value)(l:List Nat)(p:Int)(m n:Nat)(w:World)(hv:dB um w v l)(wl:XD l)(hl:l.length<=1000)(wp:(Lit.int .i64 p).wf=true)(R:m=8*n)(az:0<n)(hn:n<=125000):
  Calls prog 205 #[v,.int .i64 p,.int .i64 (m:Nat)] w fun e w'=>e = .returned (.string (bs (lM (dc l p (m:Nat)) n)))/\Below w.heap.size w w':=by
 obtain⟨A,c,rfl⟩:=hv.form;have wb:(Lit.int .i64 (m:Nat)).wf=true:=WalkArith.wf_i64 (by omega);have h1:¬(m:Int)<1:=by omega
 have h2:¬1000000<(m:Int):=by omega
 have h3:((m:Int)%8 != 0)=false:=by simp;omega
 have h4:IntKind.i64.wrap ((m:Int)/8)=(n:Int):=by rw[IntKind.wrap_i64];omega
 have I:=run_make_row' (P:=prog) 109 5 (.int .u8 0) 1 Tryz.underlying109 (by kernel_rfl) rfl .i64 .i64 n (by omega) (by omega);have Y:=qJV w (.int .u8 0) n 5;obtain⟨Z,hZ⟩:∃Z,madeCells #[Value.int .u8 0] n=Z:=⟨_,rfl⟩
 rw[hZ]at I Y;clear hZ;refine(callsIn_wide (n:=8)).1 ?_;refine callsIn_of_wp_marks func205 rfl trivial ?_ rfl;simp only[ntmps205,List.size_toArray,List.length_cons,List.length_nil,Nat.reduceAdd,Nat.reduceSub,Array.replicate_succ,Array.replicate_zero,List.push_toArray,List.append_toArray,List.nil_append,List.cons_append];have HM:=qQ R;clear R;have ap:=qQ (Fi p (m:Nat))
 have ad:CN w (m:Nat) p n l 0 [] ((w.alloc (.cells Z 5)).alloc (.cells #[.slice (some ⟨w.heap.size,0,none⟩) n n] 109)):=by
  refine⟨?_,(Y.alloc _).congr fun i _=>?_,((Below.refl _ w).alloc (qK _) _).alloc (by simp) _,gK.nil _ _⟩
  ·have h:=Boxed.new (w.alloc (.cells Z 5)) 109 (.slice (some ⟨w.heap.size,0,none⟩) n n);rw[World.size_alloc]at h;exact h
  ·rw[List.take_zero,ap.out,Fa];rfl
 clear Y
 gi_wp2
 refine wpIn_loop (fun V w'=>∃(k:Nat) (q:List Nat) (u3 u4 u5 u6 u8 u9 u10 u11 u12 u13 u14 u15 u16 u17 u18 u19 u20 u21 u22 u23 u24 u27 u28 u29 u30 u31 u32 u33 u34 u35 u36 u37 u38 u39 u40 u41 u42 u43 u44 u45 u46 u47:Value),(k<=l.length/\u27 = .int .i64 (k:Nat)/\CN w (m:Nat) p n l k q w')/\V={ tmps:=#[.slice A l.length c,.int .i64 p,.int .i64 (m:Nat),u3,u4,u5,u6,.pointer (some ⟨w.heap.size+1,0,none⟩),u8,u9,u10,u11,u12,u13,u14,u15,u16,u17,u18,u19,u20,u21,u22,u23,u24,.slice A l.length c,.int .i64 (l.length:Nat),u27,u28,u29,u30,u31,u32,u33,u34,u35,u36,u37,u38,u39,u40,u41,u42,u43,u44,u45,u46,u47],defers:=q.map CL })
  (fun V _=>l.length-(intOf (V.tmps.getD 27 undef)).toNat) ?atStart ?round
 case atStart=>exact⟨0,[],_,_,_,_,_,_,_,_,_,_,_,_,_,_,_,_,_,_,_,_,_,_,_,_,_,_,_,_,_,_,_,_,_,_,_,_,_,_,_,_,_,_,⟨qF _,rfl,ad⟩,rfl⟩
 case round =>
  rintro _ wr⟨k,q,u3,u4,u5,u6,u8,u9,u10,u11,u12,u13,u14,u15,u16,u17,u18,u19,u20,u21,u22,u23,u24,u27,u28,u29,u30,u31,u32,u33,u34,u35,u36,u37,u38,u39,u40,u41,u42,u43,u44,u45,u46,u47,⟨hk,rfl,a⟩,rfl⟩;clear ad I;by_cases ab:k<l.length
  ·obtain⟨U,off,rfl,aq,aw,ah⟩:=hv.at (by omega);have ai:=(a.below.cell (p:=⟨U,off+k,none⟩) aq).trans (ah k ab);have hg:=MJ wl k;have HT:=qQ (MK l k ab);unfold um at ai;generalize l.getD k 0=g at*;have s1:(k:Int)<(l.length:Int):=(by omega);clear ah
   gi_wp2
   refine⟨trivial, ?_⟩;refine(qJK _ _ _ _ _).mono ?_;rintro e w'⟨rfl,rfl⟩
   gi_wp2
   have F:Below wr.heap.size wr (((wr.alloc (.cells #[.int .u64 (g:Nat)] 23)).alloc (.cells #[.int .i64 p] 3)).alloc (.cells #[.int .i64 (m:Nat)] 3)):=(((Below.refl _ wr).alloc (qK _) _).alloc (by simp) _).alloc (by simp;omega) _;obtain⟨b,G⟩:∃b,(((wr.alloc (.cells #[.int .u64 (g:Nat)] 23)).alloc (.cells #[.int .i64 p] 3)).alloc (.cells #[.int .i64 (m:Nat)] 3))=b:=⟨_,rfl⟩
   have aA:b.heap.size=wr.heap.size+3:=(by rw[<-G];simp);have b0:Boxed b wr.heap.size 23 (.int .u64 (g:Nat)):=by rw[<-G];exact((Boxed.new wr 23 (.int .u64 (g:Nat))).alloc _).alloc _
   have b1:Boxed b (wr.heap.size+1) 3 (.int .i64 p):=by
    have h:=Boxed.new (wr.alloc (.cells #[.int .u64 (g:Nat)] 23)) 3 (.int .i64 p);rw[World.size_alloc]at h;rw[<-G];exact h.alloc _
   have b2:Boxed b (wr.heap.size+2) 3 (.int .i64 (m:Nat)):=by
    have h:=Boxed.new ((wr.alloc (.cells #[.int .u64 (g:Nat)] 23)).alloc (.cells #[.int .i64 p] 3)) 3 (.int .i64 (m:Nat));rw[World.size_alloc,World.size_alloc]at h;rw[<-G];exact h
   rw[G]at F ⊢;clear G;obtain⟨s,X⟩:∃s,dc (l.take k) p (m:Nat)=s:=⟨_,rfl⟩
   have af:=Q9 a.box F;have H:=a.row.below F;have ae:=bj a.below F;rw[X]at H;have ac:∀D∈q,D<b.heap.size:=fun D t=>qR (a.defs.lt t) F.size
   have aj:gK (w.heap.size+2) q b:=⟨a.defs.1,fun D t=>⟨(a.defs.2 D t).1,(F.block D (a.defs.lt t)).trans (a.defs.2 D t).2⟩⟩
   have au:w.heap.size+2<=wr.heap.size:=a.box.lt;have ao:=qQ HM.out;have an:=qQ X;clear a F ai X
   refine wpIn_rangeFunc_ownG rfl (by omega) (gf:=269) (lb:=#[.pointer (some ⟨wr.heap.size+1,0,none⟩),.pointer (some ⟨wr.heap.size,0,none⟩),.pointer (some ⟨wr.heap.size+2,0,none⟩)]) rfl trivial (enters_of func269 (by kernel_rfl) rfl)
    (qJJ _ (by omega) (wr.heap.size+1) wr.heap.size (wr.heap.size+2) g p (m:Nat) hg wp wb b b1 b0 b2) qJQ (qJX (by omega) (by omega) (by omega)) (Below.refl _ _) (fun _=>rfl)
    (fun o W=>((Boxed W (w.heap.size+1) 109 (.slice (some ⟨w.heap.size,0,none⟩) n n)/\RowB W w.heap.size n (fun i=>.int .u8 (byL (s++cO o) i:Nat)))/\Below w.heap.size w W)/\gK (w.heap.size+2) q W)
    (fun _ _ _=>False)
    (OwnFrom.and (OwnFrom.and (OwnFrom.and (Own.from (boxed_own (w.heap.size+1) 109 (fun _=>.slice (some ⟨w.heap.size,0,none⟩) n n)) _) (Own.from (RowB.own w.heap.size n (fun o i=>.int .u8 (byL (s++cO o) i:Nat))) _)) (ownFrom_below (qK _) (by omega))) (qJY ac))
    (fun _ _ _ _ _ hs _ _=>hs)
    ⟨⟨⟨af,by simpa only[qZw,List.append_nil] using H⟩,ae⟩,aj⟩
    (fun x=>{ tmps:=#[.slice (some ⟨U,off,none⟩) l.length c,.int .i64 p,.int .i64 (m:Nat),u3,u4,u5,u6,.pointer (some ⟨w.heap.size+1,0,none⟩),u8,.int .u64 (g:Nat),.int .i64 (x.1:Nat),u11,u12,u13,u14,u15,u16,u17,u18,u19,u20,u21,u22,u23,u24,.slice (some ⟨U,off,none⟩) l.length c,.int .i64 (l.length:Nat),.int .i64 (k:Nat),.bool true,.pointer (some ⟨U,off+k,none⟩),.int .u64 (g:Nat),.int .u64 (g:Nat),.int .i64 p,.int .i64 (m:Nat),.func (.func 269) #[] #[.pointer (some ⟨wr.heap.size+1,0,none⟩),.pointer (some ⟨wr.heap.size,0,none⟩),.pointer (some ⟨wr.heap.size+2,0,none⟩)],.int .i64 (x.1:Nat),u36,u37,u38,u39,u40,u41,u42,u43,u44,u45,u46,u47],defers:=[] })
    ?assign ?body ?done ?stop
   case assign =>
    rintro lo x W K M;unfold Q8
    gi_wp2
    exact M
   case body =>
    rintro lo o⟨x,hx⟩ W ⟨⟨⟨r,d⟩,z⟩,C⟩ ax;have ay:x<m:=(by have:=Fy (by omega) hx;omega);obtain⟨y,S⟩:∃y,x/8=y:=⟨_,rfl⟩
    have am:y<n:=(by have:=ao.out;omega);have s2:(y:Int)<(n:Int):=(by omega);have s3:IntKind.i64.wrap ((x:Int)/8)=(y:Int):=(by rw[IntKind.wrap_i64];omega);have c7:=r.cell;have cR:=d.cell am;have fR:=d.frozen am;have HK:=qQ fun W=>MX x W (by omega)
    have ak:=XB (Nat.mod_lt x (by decide):x%8<8);have ag:=mA (s++cO o) y;have u:=Fp (s++cO o) x;rw[S]at u;obtain⟨T,I⟩:∃T,2 ^ (x%8)=T:=⟨_,rfl⟩
    rw[I]at HK ak u;obtain⟨J,aa⟩:∃J,byL (s++cO o) y=J:=⟨_,rfl⟩
    simp only[aa]at cR ag u;have hA:=u8_or_nat J T ag ak;obtain⟨f,al⟩:∃f,J|||T=f:=⟨_,rfl⟩
    rw[al]at u hA;have HI:=qQ (qU r (qU d (qU z (qU C (qU u S)))));have HV:=qQ (CI o ⟨x,hx⟩);clear aa al I u
    have ar:KeepsFrom b.heap.size W (W.setCell ⟨w.heap.size,y,none⟩ (.int .u8 (f:Nat))).drew/\nZ (wr.heap.size+1) wr.heap.size (wr.heap.size+2) W (W.setCell ⟨w.heap.size,y,none⟩ (.int .u8 (f:Nat))).drew /\
      (((Boxed (W.setCell ⟨w.heap.size,y,none⟩ (.int .u8 (f:Nat))).drew (w.heap.size+1) 109 (.slice (some ⟨w.heap.size,0,none⟩) n n)/\RowB (W.setCell ⟨w.heap.size,y,none⟩ (.int .u8 (f:Nat))).drew w.heap.size n (fun i=>.int .u8 (byL (s++cO (o++[⟨x,hx⟩])) i:Nat)))/\Below w.heap.size w (W.setCell ⟨w.heap.size,y,none⟩ (.int .u8 (f:Nat))).drew)/\gK (w.heap.size+2) q (W.setCell ⟨w.heap.size,y,none⟩ (.int .u8 (f:Nat))).drew):=by
     obtain⟨r,d,z,C,u,S⟩:=HI.out;have hk:=(KeepsOthers.setCell W ⟨w.heap.size,y,none⟩ (.int .u8 (f:Nat))).from b.heap.size;have Q:∀j,w.heap.size<j->(W.setCell ⟨w.heap.size,y,none⟩ (.int .u8 (f:Nat))).heap[j]? = W.heap[j]? := fun j hj=>Below.heap_setCell _ _ _ j (fun e=>by have e':j=w.heap.size:=e;omega)
     refine⟨⟨hk.size,hk.same⟩,⟨Q _ (by omega),Q _ (by omega),Q _ (by omega)⟩,⟨⟨(Q _ (by omega)).trans r, ?_⟩,(z.setCell (p:=⟨w.heap.size,y,none⟩) (qK _) _).drew⟩, ?_⟩
     ·refine RowB.congr (d.set y _) fun i hi=>?_
      rw[HV.out,<-qb];by_cases e:i=y
      ·subst e;rw[qV rfl,u]
      ·rw[qZ e,Fs _ _ _ (by rw[S];exact e)]
     ·exact C.setCell (by omega) _ _
    simp only
    gi_wp2
    gi_region_with (refine⟨trivial, ?_⟩;gi_at_call 237;refine(CallsIn.inRound lo (callsIn_wide.2 (HK.out _))).mono ?_;rintro e w3⟨rfl,rfl⟩)
    all_goals exact ar
   case done =>
    rintro D ys W t O⟨⟨⟨r,d⟩,z⟩,C⟩ M;have HF:=qQ (qU r (qU d (qU z (qU (C.cons (by omega) M (fun R=>by have:=ac D R;omega)) O))));clear r d z C M O af H ae aj
    gi_wp2
    obtain⟨r,d,z,C,O⟩:=HF.out;refine⟨⟨k+1,D::q,_,_,_,_,_,_,_,_,_,_,_,_,_,_,_,_,_,_,_,_,_,_,_,_,_,_,_,_,_,_,_,_,_,_,_,_,_,_,_,_,_,_,⟨ab, ?_,⟨r,d.congr fun i hi=>?_,z,C⟩⟩,rfl⟩, ?_⟩
    ·go_num
    ·rw[O,HT.out,Fo,an.out]
    ·simp[intOf];omega
   case stop =>
    rintro D cc o W _ _ h _;exact h.elim
  ·obtain rfl:k=l.length:=(by omega);have av:=a.box.cell;obtain⟨L,N⟩:∃L,lM (dc l p (m:Nat)) n=L:=⟨_,rfl⟩
   have H:RowB wr w.heap.size n (fF L):=a.row.congr fun i hi=>by
    rw[<-N,List.take_length];unfold fF;rw[Fe _ hi]
   have aa:=Qt H (by rw[<-N,Kg]) n;have t:=qQ a.defs;have hB:=qQ a.below;have HL:=qQ N;clear N H a
   gi_wp2
   refine CM (B:=w.heap.size+2) q wr t.out (fun w' hw=>?_);refine⟨.string ⟨L.toArray⟩, ?_,by rw[HL.out];rfl,hB.out.trans (hw.mono (by omega))⟩;simp[results,Tryz.f205,go_sem]
theorem qJW(v:Value)(l:List Nat)(p b:Int)(w:World)(c:dB um w v l)(g:XD l)(d:l.length<=1000)(i:(Lit.int .i64 p).wf=true)(f:(Lit.int .i64 b).wf=true):
  Calls prog 205 #[v,.int .i64 p,.int .i64 b] w fun e w'=>e = .returned (.string (bs (dG l p b)))/\Below w.heap.size w w':=by
 cases a:lN b with
 | false=>exact qJU v l p b w c f a
 | true =>
   have j:1<=b/\b<=1000000/\b%8=0:=(by unfold lN at a;exact of_decide_eq_true a);rw[Kb a];obtain⟨m,rfl⟩:∃m:Nat,b=m:=⟨b.toNat,by omega⟩
   rw[qh];exact qJG v l p m (m/8) w c g d i (by omega) (by omega) (by omega)
end
end Go.Proofs.YtokbfellcadkpaaGreat
