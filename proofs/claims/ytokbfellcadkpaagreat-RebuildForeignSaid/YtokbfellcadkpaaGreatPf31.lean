/- ZfBlMake -/
import Derived.Test.YtokbfellcadkpaaGreatPf21
import Derived.Test.YtokbfellcadkpaaGreatPf02
import Derived.Stop.RegionWithIn
import Derived.Test.YtokbfellcadkpaaGreatPf30
import Derived.Test.YtokbfellcadkpaaGreatPf03
import Derived.WideShapes
import Derived.Carry
import Derived.ProofKit
namespace Go.Proofs.YtokbfellcadkpaaGreat
open Go.RowKit Go.Shelf
set_option linter.unusedVariables false
set_option maxRecDepth 100000
attribute [local go_sem] Oper.semAt_some
theorem RowOf.form {mk:Nat→Value}{w:World}{v:Value}{l:List Nat}(h:RowOf mk w v l) : ∃ A c,v = .slice A l.length c:=by
 rcases h with⟨rfl,A,c,rfl⟩ | ⟨_,b,off,c,rfl,_⟩
 ·exact⟨A,c,rfl⟩
 ·exact⟨_,c,rfl⟩
theorem RowOf.at {mk:Nat→Value}{w:World}{A:Option Addr}{c:Nat}{l:List Nat}(h:RowOf mk w (.slice A l.length c) l)(h0:0<l.length) :
  ∃ b off,A=some ⟨b,off,none⟩∧b<w.heap.size∧l.length≤c∧∀ i,i<l.length→w.cell? ⟨b,off+i,none⟩=some (mk (l.getD i 0)):=by
 rcases h with⟨rfl,_⟩ | ⟨_,b,off,cap,hv,hc,hb,hx⟩
 ·cases h0
 ·cases hv;exact⟨b,off,rfl,hb,hc,hx⟩
set_option maxHeartbeats 800000 in
theorem make_no (v:Value)(l:List Nat)(p b:Int)(w:World)(hv:RowOf u64V w v l)(wb:(Lit.int .i64 b).wf=true)(hk:mkOk b=false) :
  Calls Tryz.prog 205 #[v,.int .i64 p,.int .i64 b] w fun e w'=>e = .returned (.string (bs (makeL l p b)))∧Below w.heap.size w w':=by
 have bb:=bounds_i64 wb;have hk2:¬ (1≤b∧b≤1000000∧b%8=0):=by unfold mkOk at hk;exact of_decide_eq_false hk
 rw[makeL_no hk];go_enter Tryz.func205,Tryz.ntmps205;by_cases h1:b<1
 ·go_wp2;go_ret;exact⟨rfl,Below.refl _ _⟩
 ·by_cases h2:1000000<b
  ·go_wp2;go_ret;exact⟨rfl,Below.refl _ _⟩
  ·obtain⟨m,rfl⟩:∃ m:Nat,b=m:=⟨b.toNat,by omega⟩
   have h3:¬ (m:Int)%8=0:=by omega
   have h4:((m:Int)%8 != 0)=true:=by simpa using h3
   go_wp2;go_ret;exact⟨rfl,Below.refl _ _⟩
structure MkAt (w:World)(b p:Int)(n:Nat)(l:List Nat)(k:Nat)(Ds:List Nat)(W:World) : Prop where
 box:Boxed W (w.heap.size+1) 109 (.slice (some ⟨w.heap.size,0,none⟩) n n)
 row:RowB W w.heap.size n (fun i=>.int .u8 (byL (setL (l.take k) p b) i:Nat))
 below:Below w.heap.size w W
 defs:DefsAt (w.heap.size+2) Ds W
set_option maxRecDepth 100000 in
set_option maxHeartbeats 4000000 in
theorem make_yes (v:Value)(l:List Nat)(p:Int)(m n:Nat)(w:World)(hv:RowOf u64V w v l)(wl:Words l)(hl:l.length≤1000)(wp:(Lit.int .i64 p).wf=true)(hm:m=8*n)(hn0:0<n)(hn:n≤125000) :
  Calls Tryz.prog 205 #[v,.int .i64 p,.int .i64 (m:Nat)] w fun e w'=>e = .returned (.string (bs (bytesL (setL l p (m:Nat)) n)))∧Below w.heap.size w w':=by
 obtain⟨A,c,rfl⟩:=hv.form;have wb:(Lit.int .i64 (m:Nat)).wf=true:=WalkArith.wf_i64 (by omega);have h1:¬ (m:Int)<1:=by omega
 have h2:¬ 1000000<(m:Int):=by omega
 have h3:((m:Int)%8 != 0)=false:=by simp;omega
 have h4:IntKind.i64.wrap ((m:Int)/8)=(n:Int):=by rw[IntKind.wrap_i64];omega
 have hmk:=run_make_row' (P:=Tryz.prog) 109 5 (.int .u8 0) 1 Tryz.underlying109 (by kernel_rfl) rfl .i64 .i64 n (by omega) (by omega);have hR0:=rowB_made w (.int .u8 0) n 5;obtain⟨Z,hZ⟩:∃ Z,madeCells #[Value.int .u8 0] n=Z:=⟨_,rfl⟩
 rw[hZ] at hmk hR0;clear hZ;refine(callsIn_wide (n:=8)).1 ?_;refine callsIn_of_wp_marks Tryz.func205 rfl trivial ?_ rfl;simp only[Tryz.ntmps205,List.size_toArray,List.length_cons,List.length_nil,Nat.reduceAdd,Nat.reduceSub,Array.replicate_succ,Array.replicate_zero,List.push_toArray,List.append_toArray,List.nil_append,List.cons_append];have HM:=Lib.hid hm;clear hm;have HS0:=Lib.hid (setL_nil p (m:Nat))
 have hM0:MkAt w (m:Nat) p n l 0 [] ((w.alloc (.cells Z 5)).alloc (.cells #[.slice (some ⟨w.heap.size,0,none⟩) n n] 109)):=by
  refine⟨?_,(hR0.alloc _).congr fun i _=>?_,((Below.refl _ w).alloc (Nat.le_refl _) _).alloc (by simp) _,DefsAt.nil _ _⟩
  ·have h:=Boxed.new (w.alloc (.cells Z 5)) 109 (.slice (some ⟨w.heap.size,0,none⟩) n n);rw[World.size_alloc] at h;exact h
  ·rw[List.take_zero,HS0.out,byL_nil];rfl
 clear hR0
 gi_wp2
 refine wpIn_loop (fun a' w'=>∃ (k:Nat) (Ds:List Nat) (u3 u4 u5 u6 u8 u9 u10 u11 u12 u13 u14 u15 u16 u17 u18 u19 u20 u21 u22 u23 u24 u27 u28 u29 u30 u31 u32 u33 u34 u35 u36 u37 u38 u39 u40 u41 u42 u43 u44 u45 u46 u47:Value),(k≤l.length∧u27 = .int .i64 (k:Nat)∧MkAt w (m:Nat) p n l k Ds w')∧a'={ tmps:=#[.slice A l.length c,.int .i64 p,.int .i64 (m:Nat),u3,u4,u5,u6,.pointer (some ⟨w.heap.size+1,0,none⟩),u8,u9,u10,u11,u12,u13,u14,u15,u16,u17,u18,u19,u20,u21,u22,u23,u24,.slice A l.length c,.int .i64 (l.length:Nat),u27,u28,u29,u30,u31,u32,u33,u34,u35,u36,u37,u38,u39,u40,u41,u42,u43,u44,u45,u46,u47],defers:=Ds.map coll })
  (fun a' _=>l.length-(intOf (a'.tmps.getD 27 undef)).toNat) ?atStart ?round
 case atStart=>exact⟨0,[],_,_,_,_,_,_,_,_,_,_,_,_,_,_,_,_,_,_,_,_,_,_,_,_,_,_,_,_,_,_,_,_,_,_,_,_,_,_,_,_,_,_,⟨Nat.zero_le _,rfl,hM0⟩,rfl⟩
 case round =>
  rintro _ wr ⟨k,Ds,u3,u4,u5,u6,u8,u9,u10,u11,u12,u13,u14,u15,u16,u17,u18,u19,u20,u21,u22,u23,u24,u27,u28,u29,u30,u31,u32,u33,u34,u35,u36,u37,u38,u39,u40,u41,u42,u43,u44,u45,u46,u47,⟨hk,rfl,hM⟩,rfl⟩;clear hM0 hmk;by_cases hlt:k<l.length
  ·obtain⟨q0,off,rfl,hb0,hcap,hcell⟩:=hv.at (by omega);have hcx:=(hM.below.cell (p:=⟨q0,off+k,none⟩) hb0).trans (hcell k hlt);have hg:=words_at wl k;have HT:=Lib.hid (take_next l k hlt);unfold u64V at hcx;generalize l.getD k 0=g at *;have s1:(k:Int)<(l.length:Int):=by omega
   clear hcell
   gi_wp2
   refine⟨trivial, ?_⟩;refine(asked_in _ _ _ _ _).mono ?_;rintro e w' ⟨rfl,rfl⟩
   gi_wp2
   have hB0:Below wr.heap.size wr (((wr.alloc (.cells #[.int .u64 (g:Nat)] 23)).alloc (.cells #[.int .i64 p] 3)).alloc (.cells #[.int .i64 (m:Nat)] 3)):=(((Below.refl _ wr).alloc (Nat.le_refl _) _).alloc (by simp) _).alloc (by simp;omega) _;obtain⟨W0,hW0⟩:∃ W0,(((wr.alloc (.cells #[.int .u64 (g:Nat)] 23)).alloc (.cells #[.int .i64 p] 3)).alloc (.cells #[.int .i64 (m:Nat)] 3))=W0:=⟨_,rfl⟩
   have hsz:W0.heap.size=wr.heap.size+3:=by rw[← hW0];simp
   have b0:Boxed W0 wr.heap.size 23 (.int .u64 (g:Nat)):=by rw[← hW0];exact((Boxed.new wr 23 (.int .u64 (g:Nat))).alloc _).alloc _
   have b1:Boxed W0 (wr.heap.size+1) 3 (.int .i64 p):=by
    have h:=Boxed.new (wr.alloc (.cells #[.int .u64 (g:Nat)] 23)) 3 (.int .i64 p);rw[World.size_alloc] at h;rw[← hW0];exact h.alloc _
   have b2:Boxed W0 (wr.heap.size+2) 3 (.int .i64 (m:Nat)):=by
    have h:=Boxed.new ((wr.alloc (.cells #[.int .u64 (g:Nat)] 23)).alloc (.cells #[.int .i64 p] 3)) 3 (.int .i64 (m:Nat));rw[World.size_alloc,World.size_alloc] at h;rw[← hW0];exact h
   rw[hW0] at hB0 ⊢;clear hW0;obtain⟨D0,hD0⟩:∃ D0,setL (l.take k) p (m:Nat)=D0:=⟨_,rfl⟩
   have hbox:=blboxed_below hM.box hB0;have hrow:=hM.row.below hB0;have hbel:=bj hM.below hB0;rw[hD0] at hrow;have hDl:∀ D∈Ds,D<W0.heap.size:=fun D hD=>Nat.lt_of_lt_of_le (hM.defs.lt hD) hB0.size
   have hdef:DefsAt (w.heap.size+2) Ds W0:=⟨hM.defs.1,fun D hD=>⟨(hM.defs.2 D hD).1,(hB0.block D (hM.defs.lt hD)).trans (hM.defs.2 D hD).2⟩⟩
   have hRW:w.heap.size+2≤wr.heap.size:=hM.box.lt;have HMM:=Lib.hid HM.out;have HD0:=Lib.hid hD0;clear hM hB0 hcx hD0
   refine wpIn_rangeFunc_ownG rfl (by omega) (gf:=269) (lb:=#[.pointer (some ⟨wr.heap.size+1,0,none⟩),.pointer (some ⟨wr.heap.size,0,none⟩),.pointer (some ⟨wr.heap.size+2,0,none⟩)]) rfl trivial (enters_of Tryz.func269 (by kernel_rfl) rfl)
    (asked_stops _ (by omega) (wr.heap.size+1) wr.heap.size (wr.heap.size+2) g p (m:Nat) hg wp wb W0 b1 b0 b2) keeps3_t (keeps3_b (by omega) (by omega) (by omega)) (Below.refl _ _) (fun _=>rfl)
    (fun pre W=>((Boxed W (w.heap.size+1) 109 (.slice (some ⟨w.heap.size,0,none⟩) n n)∧RowB W w.heap.size n (fun i=>.int .u8 (byL (D0++valAs pre) i:Nat)))∧Below w.heap.size w W)∧DefsAt (w.heap.size+2) Ds W)
    (fun _ _ _=>False)
    (OwnFrom.and (OwnFrom.and (OwnFrom.and (Own.from (boxed_own (w.heap.size+1) 109 (fun _=>.slice (some ⟨w.heap.size,0,none⟩) n n)) _) (Own.from (RowB.own w.heap.size n (fun pre i=>.int .u8 (byL (D0++valAs pre) i:Nat))) _)) (ownFrom_below (Nat.le_refl _) (by omega))) (defsAt_own hDl))
    (fun _ _ _ _ _ hs _ _=>hs)
    ⟨⟨⟨hbox,by simpa only[valAs_nil,List.append_nil] using hrow⟩,hbel⟩,hdef⟩
    (fun x=>{ tmps:=#[.slice (some ⟨q0,off,none⟩) l.length c,.int .i64 p,.int .i64 (m:Nat),u3,u4,u5,u6,.pointer (some ⟨w.heap.size+1,0,none⟩),u8,.int .u64 (g:Nat),.int .i64 (x.1:Nat),u11,u12,u13,u14,u15,u16,u17,u18,u19,u20,u21,u22,u23,u24,.slice (some ⟨q0,off,none⟩) l.length c,.int .i64 (l.length:Nat),.int .i64 (k:Nat),.bool true,.pointer (some ⟨q0,off+k,none⟩),.int .u64 (g:Nat),.int .u64 (g:Nat),.int .i64 p,.int .i64 (m:Nat),.func (.func 269) #[] #[.pointer (some ⟨wr.heap.size+1,0,none⟩),.pointer (some ⟨wr.heap.size,0,none⟩),.pointer (some ⟨wr.heap.size+2,0,none⟩)],.int .i64 (x.1:Nat),u36,u37,u38,u39,u40,u41,u42,u43,u44,u45,u46,u47],defers:=[] })
    ?assign ?body ?done ?stop
   case assign =>
    rintro lo x W K hK;unfold encAs
    gi_wp2
    exact hK
   case body =>
    rintro lo pre ⟨x,hx⟩ W ⟨⟨⟨i1,i2⟩,i3⟩,i4⟩ hlen;have hlx:x<m:=by have:=asksL_lt (by omega) hx;omega
    obtain⟨y,hy⟩:∃ y,x/8=y:=⟨_,rfl⟩
    have hyn:y<n:=by have:=HMM.out;omega
    have s2:(y:Int)<(n:Int):=by omega
    have s3:IntKind.i64.wrap ((x:Int)/8)=(y:Int):=by rw[IntKind.wrap_i64];omega
    have c7:=i1.cell;have cR:=i2.cell hyn;have fR:=i2.frozen hyn;have HK:=Lib.hid fun W=>mask_any x W (by omega)
    have hm8:=pow8_lt (Nat.mod_lt x (by decide):x%8<8);have hc8:=byL_lt (D0++valAs pre) y;have hset:=byL_set (D0++valAs pre) x;rw[hy] at hset;obtain⟨mk,hmk⟩:∃ mk,2 ^ (x%8)=mk:=⟨_,rfl⟩
    rw[hmk] at HK hm8 hset;obtain⟨cv,hcv⟩:∃ cv,byL (D0++valAs pre) y=cv:=⟨_,rfl⟩
    simp only[hcv] at cR hc8 hset;have hA:=u8_or_nat cv mk hc8 hm8;obtain⟨nv,hnv⟩:∃ nv,cv|||mk=nv:=⟨_,rfl⟩
    rw[hnv] at hset hA;have HI:=Lib.hid (And.intro i1 (And.intro i2 (And.intro i3 (And.intro i4 (And.intro hset hy)))));have HV:=Lib.hid (valAs_snoc pre ⟨x,hx⟩);clear hcv hnv hmk hset
    have hfin:KeepsFrom W0.heap.size W (W.setCell ⟨w.heap.size,y,none⟩ (.int .u8 (nv:Nat))).drew∧Keeps3 (wr.heap.size+1) wr.heap.size (wr.heap.size+2) W (W.setCell ⟨w.heap.size,y,none⟩ (.int .u8 (nv:Nat))).drew ∧
      (((Boxed (W.setCell ⟨w.heap.size,y,none⟩ (.int .u8 (nv:Nat))).drew (w.heap.size+1) 109 (.slice (some ⟨w.heap.size,0,none⟩) n n)∧RowB (W.setCell ⟨w.heap.size,y,none⟩ (.int .u8 (nv:Nat))).drew w.heap.size n (fun i=>.int .u8 (byL (D0++valAs (pre++[⟨x,hx⟩])) i:Nat)))∧Below w.heap.size w (W.setCell ⟨w.heap.size,y,none⟩ (.int .u8 (nv:Nat))).drew)∧DefsAt (w.heap.size+2) Ds (W.setCell ⟨w.heap.size,y,none⟩ (.int .u8 (nv:Nat))).drew):=by
     obtain⟨i1,i2,i3,i4,hset,hy⟩:=HI.out;have hk:=(KeepsOthers.setCell W ⟨w.heap.size,y,none⟩ (.int .u8 (nv:Nat))).from W0.heap.size;have hf:∀ j,w.heap.size<j→(W.setCell ⟨w.heap.size,y,none⟩ (.int .u8 (nv:Nat))).heap[j]? = W.heap[j]? := fun j hj=>Below.heap_setCell _ _ _ j (fun e=>by have e':j=w.heap.size:=e;omega)
     refine⟨⟨hk.size,hk.same⟩,⟨hf _ (by omega),hf _ (by omega),hf _ (by omega)⟩,⟨⟨(hf _ (by omega)).trans i1, ?_⟩,(i3.setCell (p:=⟨w.heap.size,y,none⟩) (Nat.le_refl _) _).drew⟩, ?_⟩
     ·refine RowB.congr (i2.set y _) fun i hi=>?_
      rw[HV.out,← List.append_assoc];by_cases e:i=y
      ·subst e;rw[if_pos rfl,hset]
      ·rw[if_neg e,byL_far _ _ _ (by rw[hy];exact e)]
     ·exact i4.setCell (by omega) _ _
    simp only
    gi_wp2
    gi_region_with (refine⟨trivial, ?_⟩;gi_at_call 237;refine(CallsIn.inRound lo (callsIn_wide.2 (HK.out _))).mono ?_;rintro e w3 ⟨rfl,rfl⟩)
    all_goals exact hfin
   case done =>
    rintro D ys W hD hall ⟨⟨⟨i1,i2⟩,i3⟩,i4⟩ hK;have HF:=Lib.hid (And.intro i1 (And.intro i2 (And.intro i3 (And.intro (i4.cons (by omega) hK (fun hm=>by have:=hDl D hm;omega)) hall))));clear i1 i2 i3 i4 hK hall hbox hrow hbel hdef
    gi_wp2
    obtain⟨i1,i2,i3,i4,hall⟩:=HF.out;refine⟨⟨k+1,D::Ds,_,_,_,_,_,_,_,_,_,_,_,_,_,_,_,_,_,_,_,_,_,_,_,_,_,_,_,_,_,_,_,_,_,_,_,_,_,_,_,_,_,_,⟨hlt, ?_,⟨i1,i2.congr fun i hi=>?_,i3,i4⟩⟩,rfl⟩, ?_⟩
    ·go_num
    ·rw[hall,HT.out,setL_snoc,HD0.out]
    ·simp[intOf];omega
   case stop =>
    rintro D cc pre W _ _ h _;exact h.elim
  ·obtain rfl:k=l.length:=by omega
   have hc7:=hM.box.cell;obtain⟨L,hL⟩:∃ L,bytesL (setL l p (m:Nat)) n=L:=⟨_,rfl⟩
   have hrow:RowB wr w.heap.size n (u8At L):=hM.row.congr fun i hi=>by
    rw[← hL,List.take_length];unfold u8At;rw[bytesL_at _ hi]
   have hcv:=conv_out hrow (by rw[← hL,bytesL_length]) n;have hD:=Lib.hid hM.defs;have hB:=Lib.hid hM.below;have HL:=Lib.hid hL;clear hL hrow hM
   gi_wp2
   refine leaves_all (B:=w.heap.size+2) Ds wr hD.out (fun w' hw=>?_);refine⟨.string ⟨L.toArray⟩, ?_,by rw[HL.out];rfl,hB.out.trans (hw.mono (by omega))⟩;simp[results,Tryz.f205,go_sem]
theorem make_any (v:Value)(l:List Nat)(p b:Int)(w:World)(hv:RowOf u64V w v l)(wl:Words l)(hl:l.length≤1000)(wp:(Lit.int .i64 p).wf=true)(wb:(Lit.int .i64 b).wf=true) :
  Calls Tryz.prog 205 #[v,.int .i64 p,.int .i64 b] w fun e w'=>e = .returned (.string (bs (makeL l p b)))∧Below w.heap.size w w':=by
 cases hk:mkOk b with
 | false=>exact make_no v l p b w hv wb hk
 | true =>
   have hk2:1≤b∧b≤1000000∧b%8=0:=by unfold mkOk at hk;exact of_decide_eq_true hk
   rw[makeL_yes hk];obtain⟨m,rfl⟩:∃ m:Nat,b=m:=⟨b.toNat,by omega⟩
   rw[Int.toNat_natCast];exact make_yes v l p m (m/8) w hv wl hl wp (by omega) (by omega) (by omega)
end Go.Proofs.YtokbfellcadkpaaGreat
