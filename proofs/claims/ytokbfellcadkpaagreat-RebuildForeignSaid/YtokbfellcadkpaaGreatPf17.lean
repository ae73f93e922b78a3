/- ZfLvLib, ZfLvConcat, ZfLvOwn, ZfMfTrim, ZfLvWide, ZfLvLaw, ZfLvTrim, ZfLvPut, ZfLvTold, ZfLvActs -/
import Derived.Test.YtokbfellcadkpaaGreatPf06
import Derived.Test.YtokbfellcadkpaaGreatPf16
import Derived.Lib.OwnBridge
import Derived.Lib.AppendZeros
import Derived.WalkMore
import Derived.BigQuiet
namespace Go.Proofs.YtokbfellcadkpaaGreat
set_option maxRecDepth 100000
set_option linter.unusedVariables false
section
open Go.RowKit Go.Shelf
def IndexEnd (l:List Int)(x:Int)(w:World)(e:Ending)(w':World) : Prop:=(∃ k:Int,e = .returned (.int .i64 k)∧decide (0≤k)=decide (x∈l))∧w'=w
theorem index_any (v:Value)(l:List Int)(x:Int)(w:World)(h:IntsIn w v l)(hl:l.length≤1000000) : Calls Tryz.prog 169 #[v,.int .i64 x] w (IndexEnd l x w):=by
 obtain⟨A,off,cap,rfl,-,hc⟩:=h.form;have HC:=Lib.hid hc;obtain⟨n,hn⟩:∃ n,n=l.length:=⟨_,rfl⟩
 have HN:=Lib.hid hn;rw[← hn] at hl ⊢;clear h hc hn;go_enter Tryz.func169,Tryz.ntmps169;go_wp2;go_loopw [8] (fun i wr=>∃ k:Nat,k≤n∧i = .int .i64 k∧x ∉ l.take k∧wr=w) (fun i _=>n-(intOf i).toNat)
 case atStart=>exact⟨0,Nat.zero_le _,rfl,by simp,rfl⟩
 case round =>
  obtain⟨k,hk,rfl,hnot,rfl⟩:=hrel;have HNOT:=Lib.hid hnot;clear hnot;by_cases hlt:k<n
  ·have l1:(k:Int)<(n:Int):=by omega
   obtain⟨y,hy⟩:∃ y,l[k]? = some y:=⟨_,List.getElem?_eq_getElem (by rw[← HN.out];exact hlt)⟩
   obtain⟨b,rfl,hb,c1⟩:=HC.out k y hy;have HY:=Lib.hid hy;clear hy;by_cases hxy:x=y
   ·subst hxy;have e:(x==x)=true:=by simp
    have HM:=Lib.hid (List.mem_of_getElem? HY.out);go_wp2;go_ret;exact⟨⟨_,rfl,by rw[decide_eq_true HM.out];exact decide_eq_true (by omega)⟩,rfl⟩
   ·have e:(x==y)=false:=beq_eq_false_iff_ne.2 hxy;have HNE:=Lib.hid hxy;clear hxy;go_wp2;refine⟨⟨k+1,by omega,by go_num, ?_,trivial⟩,by simp[intOf];omega⟩;rw[List.take_add_one,HY.out];intro hm;rcases List.mem_append.1 hm with hm | hm
    ·exact HNOT.out hm
    ·exact HNE.out (by simpa using hm)
  ·obtain rfl:k=n:=by omega
   have l1:¬ (k:Int)<(k:Int):=by omega
   have HM:=Lib.hid (show x ∉ l by have h:=HNOT.out;rwa [HN.out,List.take_length] at h);clear hlt;go_wp2;go_ret;exact⟨⟨-1,rfl,by rw[decide_eq_false HM.out];rfl⟩,rfl⟩
theorem contains_any (v:Value)(l:List Int)(x:Int)(w:World)(h:IntsIn w v l)(hl:l.length≤1000000) : Calls Tryz.prog 106 #[v,.int .i64 x] w fun e w'=>e = .returned (.bool (decide (x∈l)))∧w'=w:=by
 have H:=Lib.hid (index_any v l x w h hl);clear h hl;unfold IndexEnd at H;generalize decide (x∈l)=q at *;go_enter Tryz.func106,Tryz.ntmps106;go_wp2_with fail;refine H.out.mono ?_;rintro e w' ⟨⟨k,rfl,hk⟩,rfl⟩;have HK:=Lib.hid hk;clear hk;go_wp2;go_ret;exact⟨by rw[← HK.out];rfl,rfl⟩
theorem zero_size (n:Nat) : (Builtin.zeroCells (Value.int .i64 0).cells n).size=n:=by
 unfold Builtin.zeroCells;rw[Array.size_map,Array.size_range];exact Nat.mul_one n
theorem grow_any (n:Nat)(w:World)(hn:n≤1000000) : Calls Tryz.prog 210 #[.slice none 0 0,.int .i64 (n:Nat)] w fun e w'=>∃ A c,e = .returned (.slice A 0 c)∧IRow w' w.heap.size (.slice A 0 c) []∧Below w.heap.size w w':=by
 by_cases h0:n=0
 ·subst h0;go_enter Tryz.func210,Tryz.ntmps210;go_wp2;go_ret;exact⟨none,0,rfl,IRow.nil _ _,Below.refl _ _⟩
 ·obtain⟨i0,hi,hz0,hz1,hz2⟩:=info_parts info_int;have e1:=Lib.run_append_nil_zeros (P:=Tryz.prog) w 96 3 96 3 i0 _ .i64 .i64 Tryz.underlying96 Tryz.underlying3 hi hz0 n (by omega) (by rw[hz1];decide) (by omega) (by rw[hz2];omega);have hc1:=grownCap_ge w n 0 3;have hc2:=grownCap_le_maxLen w n 0 3 (by unfold maxLen;omega);generalize grownCap w n 0 3=c at *;generalize hcs:Builtin.zeroCells (Value.int .i64 0).cells n++Builtin.zeroCells (Value.int .i64 0).cells (c-n)=cs at *;have hsz:cs.size=c*1:=by rw[← hcs,Array.size_append,zero_size,zero_size];omega
  have hb:Below w.heap.size w (w.drew.alloc (.cells cs 3)):=(Below.refl w.heap.size w).drew.alloc (Nat.le_refl _) _
  have hrow:IRow (w.drew.alloc (.cells cs 3)) w.heap.size (.slice (some ⟨w.heap.size,0,none⟩) 0 c) [] :=
   ⟨rfl,Or.inr ⟨w.heap.size,c,cs,rfl,Nat.le_refl _,Blok.new w.drew 3 cs,Nat.zero_le _,hc2,hsz,rfl⟩⟩
  have hsl:∀ W,(Instr.slice 96 (.slice (some ⟨w.heap.size,0,none⟩) n c) none (some (.int .i64 0)) none).run Tryz.prog W = .ok (.slice (some ⟨w.heap.size,0,none⟩) 0 c) W:=fun W=>by
   have hz:(sizeOf (Tryz.prog.elem 96)).run Tryz.prog W = .ok 1 W:=by simp[go_sem]
   rw[run_slice_h W _ _ _ c Tryz.underlying96 .i64 _ (by omega) (by omega),hz];show Result.ok (sliced _ _ _ _ _) W=_;unfold sliced;rw[if_neg (by omega)];simp[Addr.add]
  have HE:=Lib.hid e1;have HR:=Lib.hid hrow;have HB:=Lib.hid hb;have q1:(0:Int)<(n:Int):=by omega
  have q2:decide ((n:Int)<0)=false:=decide_eq_false (by omega);clear e1 hrow hb hsz hcs hc1 hc2 hi hz0 hz1 hz2 h0;go_enter Tryz.func210,Tryz.ntmps210;go_wp2_with (first | (at_builtin;refine wpList_append_two rfl _ _ rfl rfl rfl HE.out ?_) | fail);go_ret;exact⟨_,_,rfl,HR.out,HB.out⟩
theorem flat_succ {R:LvL}{k:Nat}{x:List Int}(h:R[k]? = some x) : (R.take (k+1)).flatten=(R.take k).flatten++x:=by
 rw[List.take_add_one,h,List.flatten_append];simp
theorem flat_le (R:LvL)(k:Nat) : (R.take k).flatten.length≤R.flatten.length:=by
 conv=>rhs;rw[← List.take_append_drop k R,List.flatten_append,List.length_append]
 omega
theorem flat_one {R:LvL}{k:Nat}{x:List Int}(h:R[k]? = some x) : x.length≤R.flatten.length:=by
 have h1:=flat_le R (k+1);rw[flat_succ h,List.length_append] at h1;omega
theorem IRow.slice {w:World}{base:Nat}{v:Value}{l:List Int}(h:IRow w base v l) : ∃ A c,v = .slice A l.length c:=by
 obtain⟨A,c,rfl,-⟩:=own_form h;exact⟨A,c,rfl⟩
theorem row_more {w wr:World}{u v:Value}{l m:List Int}(hrow:IRow wr w.heap.size u l)(hin:IntsIn wr v m)(hl:l.length+m.length≤1000000)(hb:Below w.heap.size w wr)(ty:TypeId) :
  ∃ A c w2,(Builtin.append_ #[96,96] ty #[u,v]).run Tryz.prog wr = .ok (.slice A (l.length+m.length) c) w2∧IRow w2 w.heap.size (.slice A (l.length+m.length) c) (l++m)∧Below w.heap.size w w2:=by
 obtain⟨A,c,w2,e1,e2,e3,-⟩:=ints_append hrow hin hl hb.size ty;exact⟨A,c,w2,e1,e2,hb.trans (igrown_below e3 hb.size (fun k hk=>(IRow.block hrow k hk).1))⟩
set_option maxHeartbeats 1000000 in
theorem concat_any (v:Value)(R:LvL)(w:World)(h:LvsHas w v R)(hl:R.flatten.length≤100000)(hL:R.length≤100000) : Calls Tryz.prog 168 #[v] w (IntsOut w R.flatten):=by
 have HG:=Lib.hid (grow_any R.flatten.length w (by omega));have HFL:=Lib.hid (flat_le R);have HH:=Lib.hid h;obtain⟨A,off,cap,rfl,-,hc⟩:=h.form;have HC:=Lib.hid hc;obtain⟨n,hn⟩:∃ n,n=R.length:=⟨_,rfl⟩
 have HN:=Lib.hid hn;rw[← hn] at hL ⊢;obtain⟨N,hN⟩:∃ N,N=R.flatten.length:=⟨_,rfl⟩
 have HNN:=Lib.hid hN;rw[← hN] at hl HG;clear h hc hn hN;unfold IntsOut;rw[← HNN.out];go_enter Tryz.func168,Tryz.ntmps168;go_wp2;go_loopw [3,11] (fun s i wr=>∃ k:Nat,k≤n∧i = .int .i64 k∧s = .int .i64 (((R.take k).flatten.length:Nat):Int)∧wr=w) (fun _ i _=>n-(intOf i).toNat)
 case atStart=>exact⟨0,Nat.zero_le _,rfl,rfl,rfl⟩
 case round =>
  obtain⟨k,hk,rfl,rfl,rfl⟩:=hrel;by_cases hlt:k<n
  ·have l1:(k:Int)<(n:Int):=by omega
   obtain⟨x,hx⟩:∃ x,R[k]? = some x:=⟨_,List.getElem?_eq_getElem (by rw[← HN.out];exact hlt)⟩
   obtain⟨b,u,rfl,hb,c1,hin⟩:=HC.out k x hx;obtain⟨A2,o2,c2,rfl,-,-⟩:=hin.form;have HS:=Lib.hid (show(((R.take (k+1)).flatten.length:Nat):Int)=(((R.take k).flatten.length:Nat):Int)+((x.length:Nat):Int) by rw[flat_succ hx,List.length_append];omega);have hle:=HFL.out k;have hxl:=flat_one hx;rw[← HNN.out] at hle hxl;clear hin hx;generalize (R.take k).flatten.length=s at *;generalize x.length=m at *;have q1:decide (((s:Int)+(m:Int))<0)=false:=decide_eq_false (by omega);have q2:IntKind.i64.wrap ((s:Int)+(m:Int))=(s:Int)+(m:Int):=IntWalk.i64_in _ ⟨by omega,by omega⟩;go_wp2;refine⟨⟨k+1,by omega,by go_num,by rw[HS.out],trivial⟩,by simp[intOf];omega⟩
  ·obtain rfl:k=n:=by omega
   have l1:¬ (k:Int)<(k:Int):=by omega
   have ek:(R.take k).flatten.length=N:=by rw[HN.out,List.take_length,← HNN.out]
   rw[ek];clear ek hlt;obtain⟨w0,rfl⟩:∃ w0,w0=wr:=⟨_,rfl⟩
   go_wp2_with fail;refine HG.out.mono ?_;rintro e w1 ⟨A1,c1,rfl,hrow,hb1⟩;have HROW:=Lib.hid hrow;have HB1:=Lib.hid hb1;clear hrow hb1;go_wp2;go_loopg [6,27] k (fun g u i wr=>∃ (j:Nat),j+g=k∧i = .int .i64 j∧IRow wr w0.heap.size u (R.take j).flatten∧Below w0.heap.size w0 wr)
   case atStart=>exact⟨0,by omega,rfl,HROW.out,HB1.out⟩
   case round =>
    obtain⟨j,hjg,rfl,hrow,hbel⟩:=hrel;obtain⟨A3,c3,rfl⟩:=hrow.slice;have HR3:=Lib.hid hrow;have HB3:=Lib.hid hbel;clear hrow hbel;cases gk with
    | zero =>
      obtain rfl:j=k:=by omega
      have s1:¬ (j:Int)<(j:Int):=by omega
      have ej:(R.take j)=R:=by rw[HN.out];exact List.take_length
      rw[ej] at HR3 ⊢;rw[← HNN.out] at HR3 ⊢;go_wp2;go_ret;exact⟨A3,c3,rfl,by have h:=HR3.out;rw[HNN.out] at h;rw[HNN.out];exact h,HB3.out⟩
    | succ gi =>
      have hjk:j<k:=by omega
      have s1:(j:Int)<(k:Int):=by omega
      obtain⟨x,hx⟩:∃ x,R[j]? = some x:=⟨_,List.getElem?_eq_getElem (by rw[← HN.out];exact hjk)⟩
      obtain⟨b,u,rfl,hb,cx,hin⟩:=HC.out j x hx;have cx2:=(HB3.out.cell (p:=⟨b,off+j,none⟩) hb).trans cx;have hsum:=HFL.out (j+1);rw[flat_succ hx,List.length_append,← HNN.out] at hsum;obtain⟨A4,c4,w2,e1,e2,e3⟩:=row_more HR3.out (hin.below HB3.out (Nat.le_refl _)) (by omega) HB3.out 96;obtain⟨A2,o2,c2,rfl,-,-⟩:=hin.form;have HE2:=Lib.hid (show IRow w2 w0.heap.size (.slice A4 ((R.take j).flatten.length+x.length) c4) (R.take (j+1)).flatten by rw[flat_succ hx];exact e2);have HE3:=Lib.hid e3;have HE:=Lib.hid e1;clear e1 e2 e3 cx hin hx hsum HR3;generalize (R.take j).flatten.length=s at *;generalize x.length=m at *;go_wp2_with (first | (at_builtin;refine wpList_append_two rfl _ _ rfl rfl rfl HE.out ?_) | fail);go_roundg gi
      case measure=>omega
      case rel=>exact⟨j+1,by omega,by go_num,HE2.out,HE3.out⟩
theorem sort_grown (w:World)(os:Array Obj) : Below w.heap.size w (Sort.grow w os):=⟨rfl,rfl,rfl,by simp,fun k hk=>Sort.heap_grow_old w os hk⟩
theorem sort_any (w:World)(base n c:Nat)(A:Option Addr)(l:List Int)(h:IRow w base (.slice A n c) l)(hn:n=l.length)(hl:n≤1000000) :
  Calls Tryz.prog 167 #[.slice A n c] w fun e w'=>e = .returned (.tuple #[])∧IRow w' base (.slice A n c) (sortI l)∧Below base w w':=by
 subst hn;by_cases hv:(Value.slice A l.length c) = .slice none 0 0
 ·obtain⟨rfl,h0,rfl⟩:=Value.slice.inj hv;have hl0:l=[]:=List.length_eq_zero_iff.1 h0;subst hl0;refine(AnyM.slices_Sort_int_none Tryz.isort none 0 w).mono ?_;rintro e w' ⟨rfl,rfl⟩;exact⟨rfl,by rw[show sortI []=[] by(unfold sortI;simp)];exact IRow.nil _ _,Below.refl _ _⟩
 ·obtain⟨g,cap,he,hg,hlt,hn,hm,-,hH⟩:=Lib.holds_of_ownsRow (enc:=Value.int .i64) h hv;obtain⟨rfl,-,rfl⟩:=Value.slice.inj he;refine(AnyM.slices_Sort_int Tryz.isort g 0 c l w hH hlt (by omega)).mono ?_;rintro e w' ⟨rfl,q,os,rfl⟩;have h1:=Lib.ownsRow_putRow (enc:=Value.int .i64) (q:=q) (k:=l.length) (ys:=sortI l) h (sortI_length l) (Nat.le_refl _);rw[List.take_of_length_le (by rw[sortI_length];exact Nat.le_refl _)] at h1;have hb:=Lib.below_putRow (enc:=Value.int .i64) (q:=q) (d:=(sortI l).toArray) (Below.refl base w) hg;have hG:=sort_grown (Sort.putRow (Value.int .i64) (Sort.ahead w q) g 0 (sortI l).toArray) os;refine⟨rfl, ?_, ?_⟩
  ·have h2:IRow (Sort.putRow (Value.int .i64) (Sort.ahead w q) g 0 (sortI l).toArray) base (.slice (some ⟨g,0,none⟩) l.length c) (sortI l):=by
    unfold IRow;rw[sortI_length];exact h1
   exact IRow.below h2 hG (Nat.le_refl _)
  ·exact hb.trans (hG.mono (Nat.le_trans (Nat.le_trans hg (Nat.le_of_lt hlt)) hb.size))
theorem lall_any (v:Value)(R:LvL)(w:World)(h:LvsHas w v R)(hl:R.flatten.length≤100000)(hL:R.length≤100000) : Calls Tryz.prog 100 #[v] w (IntsOut w R.flatten):=by
 have H:=Lib.hid (concat_any v R w h hl hL);clear h hl hL;unfold IntsOut at H ⊢;generalize R.flatten=l at *;go_enter Tryz.func100,Tryz.ntmps100;go_wp2_with fail;refine H.out.mono ?_;rintro e w' ⟨A,c,rfl,h1,h2⟩;have H1:=Lib.hid h1;have H2:=Lib.hid h2;clear h1 h2;go_wp2;go_ret;exact⟨A,c,rfl,H1.out,H2.out⟩
theorem comes_any (v:Value)(R:LvL)(n:Int)(w:World)(h:LvsHas w v R)(hl:R.flatten.length≤100000)(hL:R.length≤100000) :
  Calls Tryz.prog 99 #[v,.int .i64 n] w fun e w'=>e = .returned (.bool (decide (0≤n)&&!decide (n∈R.flatten)))∧Below w.heap.size w w':=by
 have H:=Lib.hid (lall_any v R w h hl hL);clear h hL;unfold IntsOut at H;generalize R.flatten=l at *;have HC:=Lib.hid (fun W A c (hr:IRow W w.heap.size (.slice A l.length c) l)=>contains_any (.slice A l.length c) l n W (IRow.in_ hr) (by omega));generalize decide (n∈l)=q at *;by_cases hn:0≤n
 ·rw[decide_eq_true hn];go_enter Tryz.func99,Tryz.ntmps99;go_wp2_with fail;refine H.out.mono ?_;rintro e w' ⟨A,c,rfl,h1,h2⟩;have H1:=Lib.hid (HC.out _ _ _ h1);have H2:=Lib.hid h2;clear h1 h2;go_wp2_with fail;refine H1.out.mono ?_;rintro e w2 ⟨rfl,rfl⟩;go_wp2;go_ret;exact⟨by simp,H2.out⟩
 ·rw[decide_eq_false hn];have q1:decide (0≤n)=false:=decide_eq_false hn;clear H HC;go_enter Tryz.func99,Tryz.ntmps99;go_wp2;go_ret;exact⟨rfl,Below.refl _ _⟩
theorem validL_great {R:LvL}(h:5<R.length∨40<R.flatten.length) : validL R=false:=decide_eq_false fun hm=>by have:=hm.1;have:=hm.2.1;omega
theorem validL_steps {R:LvL}(h1:R.length≤5)(h2:R.flatten.length≤40) : validL R=true↔StepsOk (sortI R.flatten) R.flatten.length:=by
 have h:=stepsOk_iff R.flatten;rw[sortI_length] at h;rw[h];exact⟨fun e=>(of_decide_eq_true e).2.2,fun e=>decide_eq_true ⟨h1,h2,e.1,e.2⟩⟩
theorem stepsOk_succ {s:List Int}{k:Nat}{x:Int}(h:StepsOk s k)(hx:s[k]? = some x)(h0:0≤x)(h1:∀ j y,k=j+1→s[j]? = some y→x≠y) : StepsOk s (k+1):=by
 intro i hi;rcases Nat.lt_or_ge i k with c | c
 ·exact h i c
 ·obtain rfl:i=k:=by omega
  refine⟨by rw[List.getD_eq_getElem?_getD,hx];exact h0,fun hp=>?_⟩;have hlt:i<s.length:=(List.getElem?_eq_some_iff.1 hx).1;obtain⟨y,hy⟩:∃ y,s[i-1]? = some y:=⟨_,List.getElem?_eq_getElem (by omega)⟩
  rw[List.getD_eq_getElem?_getD,hx,List.getD_eq_getElem?_getD,hy];exact h1 (i-1) y (by omega) hy
theorem stepsNot_neg {s:List Int}{k m:Nat}{x:Int}(hx:s[k]? = some x)(hk:k<m)(h0:x<0) : ¬ StepsOk s m:=fun h=>by
 have:=(h k hk).1;rw[List.getD_eq_getElem?_getD,hx] at this;have:0≤x:=this;omega
theorem stepsNot_same {s:List Int}{k m:Nat}{x:Int}(hx:s[k+1]? = some x)(hy:s[k]? = some x)(hk:k+1<m) : ¬ StepsOk s m:=fun h=>by
 have:=(h (k+1) hk).2 (by omega);rw[List.getD_eq_getElem?_getD,hx,Nat.add_sub_cancel,List.getD_eq_getElem?_getD,hy] at this;exact this rfl
set_option maxHeartbeats 1000000 in
theorem lvalid_any (v:Value)(R:LvL)(w:World)(h:LvsHas w v R)(hl:R.flatten.length≤100000)(hL:R.length≤100000) :
  Calls Tryz.prog 98 #[v] w fun e w'=>e = .returned (.bool (validL R))∧Below w.heap.size w w':=by
 have H:=Lib.hid (lall_any v R w h hl hL);obtain⟨A0,o0,c0,rfl,-,-⟩:=h.form;unfold IntsOut at H;clear h;by_cases hg:5<R.length
 ·rw[validL_great (Or.inl hg)];obtain⟨n,hn⟩:∃ n,n=R.length:=⟨_,rfl⟩
  rw[← hn] at H hg hL ⊢;clear hn;generalize R.flatten=l at *;have q1:decide ((5:Int)<(n:Int))=true:=decide_eq_true (by omega);have q2:decide (5<n)=true:=decide_eq_true hg;clear hl hL;go_enter Tryz.func98,Tryz.ntmps98;go_wp2_with fail;refine H.out.mono ?_;rintro e w' ⟨A,c,rfl,h1,h2⟩;have H2:=Lib.hid h2;clear h1 h2;go_wp2;go_ret;exact⟨rfl,H2.out⟩
 ·by_cases hg2:40<R.flatten.length
  ·rw[validL_great (Or.inr hg2)];obtain⟨n,hn⟩:∃ n,n=R.length:=⟨_,rfl⟩
   rw[← hn] at H hg hL ⊢;clear hn;obtain⟨m,hm⟩:∃ m,m=R.flatten.length:=⟨_,rfl⟩
   rw[← hm] at H hg2 hl;clear hm;generalize R.flatten=l at *;have q1:decide ((5:Int)<(n:Int))=false:=decide_eq_false (by omega);have q2:decide (5<n)=false:=decide_eq_false (by omega);have q3:decide ((40:Int)<(m:Int))=true:=decide_eq_true (by omega);have q4:decide (40<m)=true:=decide_eq_true hg2;clear hl hL hg hg2;go_enter Tryz.func98,Tryz.ntmps98;go_wp2_with fail;refine H.out.mono ?_;rintro e w' ⟨A,c,rfl,h1,h2⟩;have H2:=Lib.hid h2;clear h1 h2;go_wp2;go_ret;exact⟨rfl,H2.out⟩
  ·have HV:=Lib.hid (validL_steps (R:=R) (by omega) (by omega));obtain⟨n,hn⟩:∃ n,n=R.length:=⟨_,rfl⟩
   rw[← hn] at H hg hL ⊢;clear hn;have HSL:=Lib.hid (sortI_length R.flatten);have HSO:=Lib.hid (fun W A c (hr:IRow W w.heap.size (.slice A R.flatten.length c) R.flatten)=>sort_any W w.heap.size R.flatten.length c A R.flatten hr rfl (by omega));obtain⟨m,hm⟩:∃ m,m=R.flatten.length:=⟨_,rfl⟩
   rw[← hm] at H hg2 hl HV HSL HSO;clear hm;generalize hq:validL R=q at *;clear hq;generalize hs:sortI R.flatten=s at *;clear hs;generalize R.flatten=l at *;have q1:decide ((5:Int)<(n:Int))=false:=decide_eq_false (by omega);have q2:decide (5<n)=false:=decide_eq_false (by omega);have q3:decide ((40:Int)<(m:Int))=false:=decide_eq_false (by omega);have q4:decide (40<m)=false:=decide_eq_false (by omega);have hm40:m≤40:=by omega
   clear hl hL hg hg2;go_enter Tryz.func98,Tryz.ntmps98;go_wp2_with fail;refine H.out.mono ?_;rintro e w1 ⟨A,c,rfl,h1,h2⟩;have H2:=Lib.hid h2;have HSS:=Lib.hid (HSO.out w1 A c h1);clear h1 h2;go_wp2_with fail;refine HSS.out.mono ?_;rintro e w2 ⟨rfl,h3,h4⟩;have HB:=Lib.hid (show Below w.heap.size w w2 from H2.out.trans h4);have hrow:=IRow.in_ h3;obtain⟨A',off,cap,ev,-,hc⟩:=hrow.form;obtain⟨rfl,-,rfl⟩:=Value.slice.inj ev;have HC:=Lib.hid hc;clear h3 h4 hrow ev hc;go_wp2;go_loopw [20] (fun i wr=>∃ k:Nat,k≤m∧i = .int .i64 k∧StepsOk s k∧wr=w2) (fun i _=>m-(intOf i).toNat)
   case atStart=>exact⟨0,Nat.zero_le _,rfl,fun i hi=>(by omega),rfl⟩
   case round =>
    obtain⟨k,hk,rfl,hst,rfl⟩:=hrel;have HST:=Lib.hid hst;clear hst;by_cases hlt:k<m
    ·have l1:(k:Int)<(m:Int):=by omega
     obtain⟨x,hx⟩:∃ x,s[k]? = some x:=⟨_,List.getElem?_eq_getElem (by rw[HSL.out];exact hlt)⟩
     obtain⟨b,rfl,hb,cx⟩:=HC.out k x hx;have HX:=Lib.hid hx;clear hx hb;by_cases h0:x<0
     ·have HNO:=Lib.hid (stepsNot_neg HX.out hlt h0);have qf:q=false:=by cases q with | true=>exact absurd (HV.out.1 rfl) HNO.out | false=>rfl
      subst qf;have q5:decide (x<0)=true:=decide_eq_true h0;go_wp2;go_ret;exact⟨rfl,HB.out⟩
     ·have q5:decide (x<0)=false:=decide_eq_false h0;have h0':0≤x:=by omega
      cases k with
      | zero =>
        have HN:=Lib.hid (stepsOk_succ HST.out HX.out h0' (fun j y e=>by omega));rw[Nat.add_zero] at cx;clear h0 h0';go_wp2;refine⟨⟨1,by omega,rfl,HN.out,trivial⟩,by simp[intOf];omega⟩
      | succ j =>
        obtain⟨y,hy⟩:∃ y,s[j]? = some y:=⟨_,List.getElem?_eq_getElem (by rw[HSL.out];omega)⟩
        obtain⟨b',eb,-,cy⟩:=HC.out j y hy;obtain rfl:b=b':=by cases eb;rfl
        have HY:=Lib.hid hy;have q6:decide ((0:Int)<((j+1:Nat):Int))=true:=decide_eq_true (by omega);have q7:IntKind.i64.wrap (((j+1:Nat):Int)-1)=(j:Int):=by rw[IntWalk.i64_in _ ⟨by omega,by omega⟩];omega
        have q8:(j:Int)<(m:Int):=by omega
        clear hy eb;by_cases hxy:x=y
        ·subst hxy;have HNO:=Lib.hid (stepsNot_same HX.out HY.out hlt);have qf:q=false:=by cases q with | true=>exact absurd (HV.out.1 rfl) HNO.out | false=>rfl
         subst qf;go_wp2;go_ret;exact⟨rfl,HB.out⟩
        ·have HN:=Lib.hid (stepsOk_succ HST.out HX.out h0' (fun i z e hz=>by
          obtain rfl:i=j:=by omega
          rw[HY.out] at hz;obtain rfl:y=z:=by simpa using hz
          exact hxy))
         have q9:(x==y)=false:=beq_eq_false_iff_ne.2 hxy;clear h0 h0' hxy;go_wp2;refine⟨⟨j+1+1,by omega,by go_num,HN.out,trivial⟩,by simp[intOf];omega⟩
    ·obtain rfl:k=m:=by omega
     have l1:¬ (k:Int)<(k:Int):=by omega
     have qt:q=true:=HV.out.2 HST.out;subst qt;clear hlt;go_wp2;go_ret;exact⟨rfl,HB.out⟩
theorem mtrimN_no {R:LvL}{k:Nat}{x:List Int}(hx:R[k]? = some x)(h:x.length≠0) : trimN R (k+1)=k+1:=by
 unfold trimN;rw[if_neg];rw[List.getD_eq_getElem?_getD,hx];exact fun e=>h (by rw[show x=[] from e];rfl)
theorem mtrimN_yes {R:LvL}{k:Nat}{x:List Int}(hx:R[k]? = some x)(h:x.length=0) : trimN R (k+1)=trimN R k:=by
 rw[trimN,if_pos];rw[List.getD_eq_getElem?_getD,hx];exact List.length_eq_zero_iff.1 h
theorem LvsHas.take {w:World}{n c k:Nat}{A:Option Addr}{R:LvL}(h:LvsHas w (.slice A n c) R)(hn:n=R.length)(hk:k≤n) :
  LvsHas w (.slice A k c) (R.take k)∧(0<n→sliced A 0 k c 1 = .slice A k c∧k≤c):=by
 obtain⟨M,⟨h1,h2⟩,rfl⟩:=h;rw[lvl_length] at hn;subst hn;have he:LvEach w (M.take k):=fun x hx=>h2 x (List.mem_of_mem_take hx)
 have hl:(M.take k).length=k:=by rw[List.length_take];omega
 rcases h1 with⟨rfl,a,c',hv⟩ | ⟨b,off,cap,hv,h3,h4,h5,h6⟩
 ·obtain⟨rfl,-,rfl⟩:=Value.slice.inj hv;have k0:k=0:=by simpa using hk
  subst k0;exact⟨⟨[],⟨Or.inl ⟨rfl,_,_,rfl⟩,fun x hx=>(by cases hx)⟩,rfl⟩,fun h=>absurd h (by simp)⟩
 ·obtain⟨rfl,-,rfl⟩:=Value.slice.inj hv;refine⟨⟨M.take k,⟨Or.inr ⟨b,off,c,by rw[hl],by omega,h4,h5,fun i x hx=>?_⟩,he⟩,by rw[lvl_take]⟩,fun h0=>⟨?_,by omega⟩⟩
  ·rw[List.getElem?_take] at hx;split at hx
   ·exact h6 i x hx
   ·cases hx
  ·unfold sliced;rw[if_neg (by omega)];simp[Addr.add]
theorem mslice_to {n c k:Nat}{A:Option Addr}(hk:k≤c)(e:sliced A 0 k c 1 = .slice A k c)(W:World) : (Instr.slice 38 (.slice A n c) none (some (.int .i64 (k:Nat))) none).run Tryz.prog W = .ok (.slice A k c) W:=by
 have hz:(sizeOf (Tryz.prog.elem 38)).run Tryz.prog W = .ok 1 W:=by simp[go_sem]
 rw[run_slice_h W _ _ _ c Tryz.underlying38 .i64 _ (by omega) (by omega),hz];show Result.ok (sliced _ _ _ _ _) W=_;rw[Int.toNat_natCast,e]
theorem msliced_nil (a:Option Addr)(c:Nat) : ∃ A c',sliced a 0 0 c 1 = .slice A 0 c':=by unfold sliced;exact⟨_,_,rfl⟩
theorem mslice_none {n c:Nat}{A:Option Addr} : ∃ A' c',∀ W,(Instr.slice 38 (.slice A n c) none (some (.int .i64 0)) none).run Tryz.prog W = .ok (.slice A' 0 c') W:=by
 obtain⟨A',c',e⟩:=msliced_nil A c;refine⟨A',c',fun W=>?_⟩;have hz:(sizeOf (Tryz.prog.elem 38)).run Tryz.prog W = .ok 1 W:=by simp[go_sem]
 rw[run_slice_h W _ _ _ c Tryz.underlying38 .i64 _ (by omega) (by omega),hz];show Result.ok (sliced _ _ _ _ _) W=_;rw[show(0:Int).toNat=0 from rfl,e]
def MTrimEnd (w:World)(t:Nat)(A:Option Addr)(c:Nat)(e:Ending)(w':World) : Prop:=e = .returned (.slice A t c)∧w'=w
theorem mtrim_told {w:World}{n c k:Nat}{A:Option Addr}{R:LvL}(h:LvsHas w (.slice A n c) R)(hn:n=R.length)(hk:k=trimN R n) :
  k=(trimL R).length∧LvsHas w (.slice A k c) (trimL R):=by
 have hle:=trimN_le R n;have e:trimL R=R.take k:=by unfold trimL;rw[← hn,hk]
 refine⟨by rw[e,List.length_take];omega, ?_⟩;rw[e];exact(h.take hn (by omega)).1
theorem mtrim_cells {w:World}{n c:Nat}{A:Option Addr}{R:LvL}(h:LvsHas w (.slice A n c) R)(hn:n=R.length) : ∀ j,j<n→∃ g off A' m c',A=some ⟨g,off,none⟩∧w.cell? ⟨g,off+j,none⟩=some (.slice A' m c')∧(m≠0→trimN R (j+1)=j+1)∧(m=0→trimN R (j+1)=trimN R j):=by
 intro j hj;obtain⟨A2,off,cap,ev,-,hc⟩:=h.form;obtain⟨rfl,-,rfl⟩:=Value.slice.inj ev;obtain⟨y,hy⟩:∃ y,R[j]? = some y:=⟨_,List.getElem?_eq_getElem (by omega)⟩
 obtain⟨b,u,rfl,-,c1,hin⟩:=hc j y hy;obtain⟨A',o',c',rfl,-,-⟩:=hin.form;exact⟨b,off,A',y.length,c',rfl,c1,mtrimN_no hy,mtrimN_yes hy⟩
theorem mtrimmed_any (A:Option Addr)(n c:Nat)(R:LvL)(w:World)(h:LvsHas w (.slice A n c) R)(hn:n=R.length)(hl:n≤100000) :
  Calls Tryz.prog 225 #[.slice A n c] w (MTrimEnd w (trimL R).length A c):=by
 have HT:=Lib.hid (fun k (hk:k=trimN R n)=>(mtrim_told h hn hk).1);have HS:=Lib.hid (fun k m (hk:k≤n) (h0:0<n) W=>mslice_to (n:=m) ((h.take hn hk).2 h0).2 ((h.take hn hk).2 h0).1 W);have HC:=Lib.hid (mtrim_cells h hn);unfold MTrimEnd;generalize (trimL R).length=tl at *;clear h hn;generalize hf:trimN R=f at *;have HF:=Lib.hid (show f 0=0 by rw[← hf];rfl);clear hf;go_enter Tryz.func225,Tryz.ntmps225;go_wp2;go_loopw [0] (fun u wr=>∃ k:Nat,k≤n∧u = .slice A k c∧f k=f n∧wr=w) (fun u _=>match u with | .slice _ k _=>k | _=>0)
 case atStart=>exact⟨n,Nat.le_refl _,rfl,rfl,rfl⟩
 case round =>
  obtain⟨k,hk,rfl,hfk,rfl⟩:=hrel;have HFK:=Lib.hid hfk;clear hfk;cases k with
  | zero =>
    obtain rfl:=HT.out 0 (by rw[← HFK.out,HF.out]);go_wp2;go_ret;exact⟨rfl,rfl⟩
  | succ j =>
    obtain⟨g,off,A',m,c',rfl,c1,h1,h2⟩:=HC.out j (by omega);have q1:decide ((0:Int)<((j+1:Nat):Int))=true:=decide_eq_true (by omega);have q2:IntKind.i64.wrap (((j+1:Nat):Int)-1)=(j:Int):=by rw[IntWalk.i64_in _ ⟨by omega,by omega⟩];omega
    have q3:(j:Int)<((j+1:Nat):Int):=by omega
    by_cases h0:m=0
    ·subst h0;have HE:=Lib.hid ((h2 rfl).symm.trans HFK.out);have hs:=fun W=>HS.out j (j+1) (by omega) (by omega) W
     clear h1 h2;go_wp2;exact⟨⟨j,by omega,rfl,HE.out,trivial⟩,by simp⟩
    ·have H3:=Lib.hid (HT.out (j+1) (by rw[← HFK.out,h1 h0]));have q4:(((m:Nat):Int)==0)=false:=beq_eq_false_iff_ne.2 (by omega);have q5:(m==0)=false:=beq_eq_false_iff_ne.2 h0;clear h1 h2 h0;go_wp2;go_ret;exact⟨by rw[← H3.out];rfl,rfl⟩
theorem mltrim_run (A A2:Option Addr)(n c c2:Nat)(R:LvL)(w:World)(h:LvsHas w (.slice A n c) R)(hn:n=R.length)(hl:n≤100000)
  (hz:trimN R n=0→∀ W,(Instr.slice 38 (.slice A n c) none (some (.int .i64 0)) none).run Tryz.prog W = .ok (.slice A2 0 c2) W) (hnz:trimN R n≠0→A2=A∧c2=c) :
  Calls Tryz.prog 78 #[.slice A n c] w (MTrimEnd w (trimL R).length A2 c2):=by
 have HZ:=Lib.hid hz;have HNZ:=Lib.hid hnz;have HT:=Lib.hid (fun k (hk:k=trimN R n)=>(mtrim_told h hn hk).1);have HS:=Lib.hid (fun k (hk:k≤n) (h0:0<n) W=>mslice_to (n:=n) ((h.take hn hk).2 h0).2 ((h.take hn hk).2 h0).1 W);have HC:=Lib.hid (mtrim_cells h hn);unfold MTrimEnd;generalize (trimL R).length=tl at *;clear h hn hz hnz;generalize hf:trimN R=f at *;have HF:=Lib.hid (show f 0=0 by rw[← hf];rfl);clear hf;go_enter Tryz.func78,Tryz.ntmps78;go_wp2;go_loopw [3] (fun u wr=>∃ k:Nat,k≤n∧u = .int .i64 k∧f k=f n∧wr=w) (fun u _=>(intOf u).toNat)
 case atStart=>exact⟨n,Nat.le_refl _,rfl,rfl,rfl⟩
 case round =>
  obtain⟨k,hk,rfl,hfk,rfl⟩:=hrel;have HFK:=Lib.hid hfk;clear hfk;cases k with
  | zero =>
    obtain rfl:=HT.out 0 (by rw[← HFK.out,HF.out]);have hs:=HZ.out (by rw[← HFK.out,HF.out]);go_wp2;go_ret;exact⟨rfl,rfl⟩
  | succ j =>
    obtain⟨g,off,A',m,c',rfl,c1,h1,h2⟩:=HC.out j (by omega);have q1:decide ((0:Int)<((j+1:Nat):Int))=true:=decide_eq_true (by omega);have q2:IntKind.i64.wrap (((j+1:Nat):Int)-1)=(j:Int):=by rw[IntWalk.i64_in _ ⟨by omega,by omega⟩];omega
    have q3:(j:Int)<(n:Int):=by omega
    by_cases h0:m=0
    ·subst h0;have HE:=Lib.hid ((h2 rfl).symm.trans HFK.out);clear h1 h2;go_wp2;exact⟨⟨j,by omega,rfl,HE.out,trivial⟩,by simp[intOf]⟩
    ·have H3:=Lib.hid (HT.out (j+1) (by rw[← HFK.out,h1 h0]));obtain⟨rfl,rfl⟩:=HNZ.out (by rw[← HFK.out,h1 h0];omega);have q4:(((m:Nat):Int)==0)=false:=beq_eq_false_iff_ne.2 (by omega);have q5:(m==0)=false:=beq_eq_false_iff_ne.2 h0;have hs:∀ W,(Instr.slice 38 (.slice (some ⟨g,off,none⟩) n c2) none (some (.int .i64 ((j:Int)+1))) none).run Tryz.prog W = .ok (.slice (some ⟨g,off,none⟩) (j+1) c2) W:=fun W=>HS.out (j+1) (by omega) (by omega) W
     clear h1 h2 h0;go_wp2;go_ret;exact⟨by rw[← H3.out];rfl,rfl⟩
theorem mtrimmed_all (A:Option Addr)(n c:Nat)(R:LvL)(hn:n=R.length)(hl:n≤100000) : ∃ A' c',∀ w,LvsHas w (.slice A n c) R →
  Calls Tryz.prog 225 #[.slice A n c] w (MTrimEnd w (trimL R).length A' c')∧LvsHas w (.slice A' (trimL R).length c') (trimL R) :=
 ⟨A,c,fun w h=>⟨mtrimmed_any A n c R w h hn hl,by
  obtain⟨e,h2⟩:=mtrim_told h hn rfl;rw[← e];exact h2⟩⟩
theorem mltrim_all (A:Option Addr)(n c:Nat)(R:LvL)(hn:n=R.length)(hl:n≤100000) : ∃ A' c',∀ w,LvsHas w (.slice A n c) R →
  Calls Tryz.prog 78 #[.slice A n c] w (MTrimEnd w (trimL R).length A' c')∧LvsHas w (.slice A' (trimL R).length c') (trimL R):=by
 by_cases h0:trimN R n=0
 ·obtain⟨A',c',hs⟩:=mslice_none (n:=n) (c:=c) (A:=A);refine⟨A',c',fun w h=>⟨mltrim_run A A' n c c' R w h hn hl (fun _=>hs) (fun e=>absurd h0 e), ?_⟩⟩;have e2:trimL R=[]:=by unfold trimL;rw[← hn,h0,List.take_zero]
  rw[e2];exact LvsHas.nil w A' c'
 ·refine⟨A,c,fun w h=>⟨mltrim_run A A n c c R w h hn hl (fun e=>absurd e h0) (fun _=>⟨rfl,rfl⟩), ?_⟩⟩;obtain⟨e,h2⟩:=mtrim_told h hn rfl;rw[← e];exact h2
def lvNil : LvS:=⟨.slice none 0 0,[]⟩
theorem lv_zeros (n:Nat) : (madeCells #[Value.slice none 0 0] (n*1)).toList=lvals (List.replicate n lvNil):=by
 unfold lvals;rw[List.map_replicate];apply List.ext_getElem?;intro i;rw[Array.getElem?_toList,List.getElem?_replicate];by_cases h:i<n
 ·rw[if_pos h];unfold madeCells;simp[h,Nat.mod_one,lvNil]
 ·rw[if_neg h,Array.getElem?_eq_none (by rw[size_madeCells];omega)]
theorem lv_make (n:Nat)(hn:n≤1000000) : ∃ Z:Array Value,(∀ w:World,(Instr.makeSlice 38 (.int .i64 (n:Nat)) (.int .i64 (n:Nat))).run Tryz.prog w = .ok (.slice (some ⟨w.heap.size,0,none⟩) n n) (w.alloc (.cells Z 96))) ∧
  ∀ w:World,LvRow (w.alloc (.cells Z 96)) w.heap.size (.slice (some ⟨w.heap.size,0,none⟩) n n) (List.replicate n lvNil):=by
 obtain⟨i0,hi,hz0,hz1,hz2⟩:=info_parts info_lv;refine⟨madeCells #[Value.slice none 0 0] (n*1),fun w=>?_,fun w=>?_⟩
 ·have h:=run_makeSlice (P:=Tryz.prog) w 38 96 i0 _ Tryz.underlying38 hi hz0 .i64 .i64 (n:Int) (n:Int) (by omega) (Int.le_refl _) (by rw[hz1];omega) (by rw[hz2];omega) (by omega);rw[hz1,Int.toNat_natCast] at h;exact h
 ·have h:=World.ownsRow_lit (base:=w.heap.size) (e:=96) (size:=1) w (madeCells #[Value.slice none 0 0] (n*1)) n (Nat.le_refl _) (by unfold maxLen;omega) (size_madeCells _ _);unfold LvRow;rw[List.length_replicate,← lv_zeros];exact h
def fillTo (R:LvL)(n k:Nat) : LvL:=R.take k++List.replicate (n-k) []
theorem fillTo_zero (R:LvL)(n:Nat) : fillTo R n 0=List.replicate n []:=by unfold fillTo;rw[List.take_zero,List.nil_append,Nat.sub_zero]
theorem fillTo_length {R:LvL}{n k:Nat}(hk:k≤R.length)(h:R.length≤n) : (fillTo R n k).length=n:=by
 unfold fillTo;rw[List.length_append,List.length_take,List.length_replicate];omega
theorem fillTo_succ {R:LvL}{n k:Nat}{x:List Int}(hx:R[k]? = some x)(h:R.length≤n) : (fillTo R n k).set k x=fillTo R n (k+1):=by
 have hk:k<R.length:=(List.getElem?_eq_some_iff.1 hx).1;have e:n-k=(n-(k+1))+1:=by omega
 unfold fillTo;rw[List.set_append_right _ _ (by rw[List.length_take];omega),List.length_take,Nat.min_eq_left (by omega),Nat.sub_self,e,List.replicate_succ,List.set_cons_zero,List.take_add_one,hx];simp
theorem wide_fill (R:LvL) : fillTo R 5 R.length=wideL R:=rfl
def FillAt (w:World)(g n:Nat)(R:LvL)(k:Nat)(wr:World) : Prop:=∃ M,LvRow wr w.heap.size (.slice (some ⟨g,0,none⟩) n n) M∧LvOwn wr w.heap.size M∧LvApart M∧lvl M=fillTo R n k∧Below w.heap.size w wr
theorem FillAt.start {w w1:World}{Z:Array Value}(n:Nat)(R:LvL)(h:LvRow (w.alloc (.cells Z 96)) w.heap.size (.slice (some ⟨w.heap.size,0,none⟩) n n) (List.replicate n lvNil)) : FillAt w w.heap.size n R 0 (w.alloc (.cells Z 96)):=by
 refine⟨_,h,fun x hx=>?_,fun i j x y hx hy hij g hg=>?_, ?_,(Below.refl w.heap.size w).alloc (Nat.le_refl _) _⟩
 ·rw[List.eq_of_mem_replicate hx];exact IRow.nil _ _
 ·have hx':=List.eq_of_mem_replicate (List.mem_of_getElem? hx);rw[hx'] at hg;cases hg
 ·rw[fillTo_zero];unfold lvl;rw[List.map_replicate];rfl
theorem FillAt.cell {w wr:World}{g n k m:Nat}{R:LvL}(h:FillAt w g n R k wr)(hm:m<n)(hk:k≤R.length)(hR:R.length≤n) : (∃ u,wr.cell? ⟨g,m,none⟩=some u)∧wr.frozen? ⟨g,m,none⟩=false∧w.heap.size≤g∧g<wr.heap.size:=by
 obtain⟨M,h1,h2,h3,h4,h5⟩:=h;have hl:M.length=n:=by rw[← lvl_length,h4,fillTo_length hk hR]
 obtain⟨y,hy⟩:∃ y,M[m]? = some y:=⟨_,List.getElem?_eq_getElem (by omega)⟩
 obtain⟨c1,c2⟩:=LvRow.cell h1 hl.symm hy;obtain⟨g',e,e1,e2,-⟩:=LvRow.some_ h1 (by omega);obtain rfl:g=g':=by cases e;rfl
 exact⟨⟨_,c1⟩,c2,e1,e2⟩
theorem FillAt.next {w wr w2:World}{g n k m c:Nat}{A:Option Addr}{R:LvL}{x:List Int}(h:FillAt w g n R k wr)(hx:R[k]? = some x)(hR:R.length≤n)(hnew:IRow w2 wr.heap.size (.slice A m c) x)(hb2:Below wr.heap.size wr w2) :
  FillAt w g n R (k+1) (w2.setCell ⟨g,k,none⟩ (.slice A m c)):=by
 have hk:k<R.length:=(List.getElem?_eq_some_iff.1 hx).1;obtain⟨-,-,hg1,hg2⟩:=h.cell (m:=k) (by omega) (by omega) hR;obtain⟨M,h1,h2,h3,h4,h5⟩:=h;have hl:M.length=n:=by rw[← lvl_length,h4,fillTo_length (by omega) hR]
 have r1:=LvRow.below h1 hb2 (Nat.le_refl _);have r2:=h2.below hb2 (Nat.le_refl _);have r3:=LvRow.put r1 hl.symm (i:=k) ⟨.slice A m c,x⟩;refine⟨M.set k ⟨.slice A m c,x⟩,r3,fun y hy=>?_,h3.set fun q hq j y hj hy hq2=>?_, ?_,(h5.trans (hb2.mono h5.size)).setCell hg1 _⟩
 ·rcases List.mem_or_eq_of_mem_set hy with hy | rfl
  ·exact IRow.far_l (r2 y hy) r1
  ·exact IRow.far_l (IRow.down hnew h5.size) r1
 ·have b1:=(IRow.block hnew q hq).1;have b2:=(IRow.block (h2 y (List.mem_of_getElem? hy)) q hq2).2;omega
 ·rw[lvl_set,h4];exact fillTo_succ hx hR
def WideEnd (w:World)(R:LvL)(e:Ending)(w':World) : Prop:=∃ g,e = .returned (.slice (some ⟨g,0,none⟩) 5 5)∧FillAt w g 5 R R.length w'
set_option maxHeartbeats 1000000 in
theorem copied_any (v:Value)(R:LvL)(w:World)(h:LvsHas w v R)(hl:R.flatten.length≤100000)(hL:R.length≤5) : Calls Tryz.prog 101 #[v] w (WideEnd w R):=by
 obtain⟨A,off,cap,rfl,-,hc⟩:=h.form;have HC:=Lib.hid hc;have HF1:=Lib.hid (fun k x (hx:R[k]? = some x)=>flat_one hx);have HX:=Lib.hid (fun wr g k w2 A m c x (h1:FillAt w g 5 R k wr) (h2:R[k]? = some x) (h3:IRow w2 wr.heap.size (.slice A m c) x) h4=>h1.next h2 hL h3 h4);have HCE:=Lib.hid (fun wr g k m (h1:FillAt w g 5 R k wr) (h2:m<5) h3=>h1.cell h2 h3 hL);obtain⟨Z,hZ1,hZ2⟩:=lv_make 5 (by omega);have HZ:=Lib.hid (FillAt.start (w1:=w) 5 R (hZ2 w));have hZ:∀ w:World,(Instr.makeSlice 38 (.int .i64 5) (.int .i64 5)).run Tryz.prog w = .ok (.slice (some ⟨w.heap.size,0,none⟩) 5 5) (w.alloc (.cells Z 96)):=hZ1;unfold WideEnd;obtain⟨n,hn⟩:∃ n,n=R.length:=⟨_,rfl⟩
 have HN:=Lib.hid hn;rw[← hn] at hL HCE ⊢;clear h hc hn hZ2 hZ1;go_enter Tryz.func101,Tryz.ntmps101;go_wp2;go_loopg [9] n (fun g i wr=>∃ (k:Nat),k+g=n∧i = .int .i64 k∧FillAt w w.heap.size 5 R k wr)
 case atStart=>exact⟨0,by omega,rfl,HZ.out⟩
 case round =>
  obtain⟨k,hkg,rfl,hf⟩:=hrel;have HF:=Lib.hid hf;clear hf;cases gk with
  | zero =>
    obtain rfl:k=n:=by omega
    have s1:¬ (k:Int)<(k:Int):=by omega
    go_wp2;go_ret;exact⟨_,rfl,HF.out⟩
  | succ gi =>
    have hkn:k<n:=by omega
    have s1:(k:Int)<(n:Int):=by omega
    obtain⟨x,hx⟩:∃ x,R[k]? = some x:=⟨_,List.getElem?_eq_getElem (by rw[← HN.out];exact hkn)⟩
    obtain⟨b,u,rfl,hb,c1,hin⟩:=HC.out k x hx;obtain⟨M,-,-,-,-,hbel⟩:=HF.out;have c2:=(hbel.cell (p:=⟨b,off+k,none⟩) hb).trans c1;have HCL:=Lib.hid (iclone_any u x wr (hin.below hbel (Nat.le_refl _)) (by have:=HF1.out k x hx;omega));obtain⟨A2,o2,c2',rfl,-,-⟩:=hin.form;have HXX:=Lib.hid (fun w2 A c h3 h4=>HX.out wr _ k w2 A x.length c x HF.out hx h3 h4);obtain⟨⟨y,d1⟩,d2,-,hgl⟩:=HCE.out wr _ k k HF.out (by omega) (by omega);unfold IntsOut at HCL;clear hx hin hbel c1;generalize x.length=m at *;go_wp2_with fail;refine HCL.out.mono ?_;rintro e w2 ⟨A3,c3,rfl,h3,h4⟩;have HNX:=Lib.hid (HXX.out w2 A3 c3 h3 h4);have d3:=(h4.cell (p:=⟨w.heap.size,k,none⟩) hgl).trans d1;have d4:w2.frozen? ⟨w.heap.size,k,none⟩=false:=by rw[World.frozen?_of_block (w:=wr) (h4.block _ hgl)];exact d2
    clear h3 h4 d1 d2;go_wp2;go_roundg gi
    case measure=>omega
    case rel=>exact⟨k+1,by omega,by go_num,HNX.out⟩
def LIntsSame (b:Bool)(w:World)(e:Ending)(w':World) : Prop:=e = .returned (.bool b)∧∃ n,w'=w.drewN n
theorem lprefix_eq {a b:List Int}(hl:a.length=b.length)(h:∀ (j:Nat) x y,a[j]? = some x→b[j]? = some y→x=y) : a=b:=by
 apply List.ext_getElem hl;intro j h1 h2;exact h j _ _ (List.getElem?_eq_getElem h1) (List.getElem?_eq_getElem h2)
set_option maxHeartbeats 1000000 in
theorem lints_any (va vb:Value)(a b:List Int)(w:World)(ha:IntsIn w va a)(hb:IntsIn w vb b) :
  Calls Tryz.prog 143 #[va,vb] w (LIntsSame (decide (a=b)) w):=by
 obtain⟨A,oa,ca,rfl,ma,fa⟩:=ha.cell;obtain⟨B,ob,cb,rfl,mb,fb⟩:=hb.cell;unfold maxLen at ma mb;have FA:=Lib.hid fa;have FB:=Lib.hid fb;clear ha hb fa fb;by_cases hl:a.length=b.length
 case neg =>
  have e:decide (a=b)=false:=decide_eq_false (fun h=>hl (by rw[h]));rw[e];have t:((a.length:Int) != (b.length:Int))=true:=by simp;omega
  have t2:(a.length != b.length)=true:=by simp;omega
  clear e hl;go_enter Tryz.func143,Tryz.ntmps143;go_wp2;go_ret;exact⟨rfl,0,rfl⟩
 obtain⟨n,hn⟩:∃ n,n=a.length:=⟨_,rfl⟩
 have HNA:=Lib.hid hn;have HNB:=Lib.hid (hn.trans hl);rw[← hn] at ma ⊢;rw[← hl,← hn] at mb ⊢;clear hl hn;go_enter Tryz.func143,Tryz.ntmps143;go_wp2;go_loopw [5] (fun i wr=>∃ k m:Nat,k≤n∧i = .int .i64 k∧(∀ j x y,j<k→a[j]? = some x→b[j]? = some y→x=y)∧wr=w.drewN m) (fun i _=>n-(intOf i).toNat)
 case atStart=>exact⟨0,0,Nat.zero_le _,rfl,fun j x y hj=>by omega,rfl⟩
 case round =>
  obtain⟨k,m,hk,rfl,hall,rfl⟩:=hrel;have HA:=Lib.hid hall;clear hall;by_cases hlt:k<n
  ·have l1:(k:Int)<(n:Int):=by omega
   have hxa:a[k]? = some a[k]:=List.getElem?_eq_getElem (by rw[← HNA.out];exact hlt);have hxb:b[k]? = some b[k]:=List.getElem?_eq_getElem (by rw[← HNB.out];exact hlt);obtain⟨ba,rfl,d1⟩:=FA.out k _ hxa;obtain⟨bb,rfl,d2⟩:=FB.out k _ hxb;have HXA:=Lib.hid hxa;have HXB:=Lib.hid hxb;clear hxa hxb;generalize a[k]=x at *;generalize b[k]=y at *;by_cases hxy:x=y
   ·subst hxy;go_wp2;go_quiet (fail);go_wp2;refine⟨⟨k+1,_,by omega,by go_num,fun j u v hj hu hv=>?_,rfl⟩,by simp[intOf];omega⟩;rcases Nat.lt_or_ge j k with c | c
    ·exact HA.out j u v c hu hv
    ·obtain rfl:j=k:=by omega
     rw[HXA.out] at hu;rw[HXB.out] at hv;have e1:x=u:=by simpa using hu
     have e2:x=v:=by simpa using hv
     rw[← e1,← e2]
   ·have e:decide (a=b)=false:=decide_eq_false (fun h=>hxy (by have h1:=HXA.out;rw[h,HXB.out] at h1;simpa using h1.symm));have t:(x != y)=true:=by simp[hxy]
    have E:=Lib.hid e;clear e hxy;go_wp2;go_quiet (fail);go_wp2;go_ret;exact⟨by rw[E.out];rfl,_,World.drewN_drewN _ _ _⟩
  ·have e:decide (a=b)=true:=decide_eq_true (lprefix_eq (by rw[← HNA.out,← HNB.out]) (fun j x y hx hy=>HA.out j x y (by have:=(List.getElem?_eq_some_iff.1 hx).1;rw[← HNA.out] at this;omega) hx hy));have l1:decide ((k:Int)<(n:Int))=false:=decide_eq_false (by omega);have l2:decide (k<n)=false:=decide_eq_false (by omega);have E:=Lib.hid e;clear e hlt;go_wp2;go_ret;exact⟨by rw[E.out];rfl,_,rfl⟩
theorem lvprefix_eq {a b:LvL}(hl:a.length=b.length)(h:∀ (j:Nat) x y,a[j]? = some x→b[j]? = some y→x=y) : a=b:=by
 apply List.ext_getElem hl;intro j h1 h2;exact h j _ _ (List.getElem?_eq_getElem h1) (List.getElem?_eq_getElem h2)
set_option maxHeartbeats 1000000 in
theorem lsame_any (va vb:Value)(a b:LvL)(w:World)(ha:LvsHas w va a)(hb:LvsHas w vb b) :
  Calls Tryz.prog 77 #[va,vb] w (LIntsSame (decide (a=b)) w):=by
 obtain⟨A,oa,ca,rfl,ma,fa⟩:=ha.form;obtain⟨B,ob,cb,rfl,mb,fb⟩:=hb.form;unfold maxLen at ma mb;have FA:=Lib.hid fa;have FB:=Lib.hid fb;clear ha hb fa fb;by_cases hl:a.length=b.length
 case neg =>
  have e:decide (a=b)=false:=decide_eq_false (fun h=>hl (by rw[h]));rw[e];have t:((a.length:Int) != (b.length:Int))=true:=by simp;omega
  have t2:(a.length != b.length)=true:=by simp;omega
  clear e hl;go_enter Tryz.func77,Tryz.ntmps77;go_wp2;go_ret;exact⟨rfl,0,rfl⟩
 obtain⟨n,hn⟩:∃ n,n=a.length:=⟨_,rfl⟩
 have HNA:=Lib.hid hn;have HNB:=Lib.hid (hn.trans hl);rw[← hn] at ma ⊢;rw[← hl,← hn] at mb ⊢;clear hl hn;go_enter Tryz.func77,Tryz.ntmps77;go_wp2;go_loopw [5] (fun i wr=>∃ k m:Nat,k≤n∧i = .int .i64 k∧(∀ j x y,j<k→a[j]? = some x→b[j]? = some y→x=y)∧wr=w.drewN m) (fun i _=>n-(intOf i).toNat)
 case atStart=>exact⟨0,0,Nat.zero_le _,rfl,fun j x y hj=>by omega,rfl⟩
 case round =>
  obtain⟨k,m,hk,rfl,hall,hwr⟩:=hrel;have HA:=Lib.hid hall;have HW:=Lib.hid hwr;clear hall;by_cases hlt:k<n
  ·have l1:(k:Int)<(n:Int):=by omega
   obtain⟨x,hxa⟩:∃ x,a[k]? = some x:=⟨_,List.getElem?_eq_getElem (by rw[← HNA.out];exact hlt)⟩
   obtain⟨y,hxb⟩:∃ y,b[k]? = some y:=⟨_,List.getElem?_eq_getElem (by rw[← HNB.out];exact hlt)⟩
   obtain⟨ba,ua,rfl,-,d1,i1⟩:=FA.out k _ hxa;obtain⟨bb,ub,rfl,-,d2,i2⟩:=FB.out k _ hxb;have e1:wr.cell? ⟨ba,oa+k,none⟩=some ua:=by rw[hwr];exact d1
   have e2:wr.cell? ⟨bb,ob+k,none⟩=some ub:=by rw[hwr];exact d2
   have HI:=Lib.hid (fun d=>lints_any ua ub x y (wr.drewN d) (by rw[hwr];exact i1) (by rw[hwr];exact i2));obtain⟨A3,o3,c3,rfl,-,-⟩:=i1.form;obtain⟨A4,o4,c4,rfl,-,-⟩:=i2.form;have HXA:=Lib.hid hxa;have HXB:=Lib.hid hxb;unfold LIntsSame at HI;clear hxa hxb d1 d2 i1 i2 hwr;by_cases hxy:x=y
   ·subst hxy;rw[decide_eq_true rfl] at HI;generalize x.length=m3 at *;go_wp2;go_quiet ((go_at_call 143;exact Calls.quiet_of (HI.out _)));go_wp2;refine⟨⟨k+1,_,by omega,by go_num,fun j u v hj hu hv=>?_,by rw[HW.out];exact World.drewN_drewN _ _ _⟩,by simp[intOf];omega⟩;rcases Nat.lt_or_ge j k with c | c
    ·exact HA.out j u v c hu hv
    ·obtain rfl:j=k:=by omega
     rw[HXA.out] at hu;rw[HXB.out] at hv;have e1:x=u:=by simpa using hu
     have e2:x=v:=by simpa using hv
     rw[← e1,← e2]
   ·have e:decide (a=b)=false:=decide_eq_false (fun h=>hxy (by have h1:=HXA.out;rw[h,HXB.out] at h1;simpa using h1.symm));rw[decide_eq_false hxy] at HI;have E:=Lib.hid e;clear e hxy;generalize x.length=m3 at *;generalize y.length=m4 at *;go_wp2;go_quiet ((go_at_call 143;exact Calls.quiet_of (HI.out _)));go_wp2;go_ret;exact⟨by rw[E.out];rfl,_,by rw[HW.out];exact World.drewN_drewN _ _ _⟩
  ·have e:decide (a=b)=true:=decide_eq_true (lvprefix_eq (by rw[← HNA.out,← HNB.out]) (fun j x y hx hy=>HA.out j x y (by have:=(List.getElem?_eq_some_iff.1 hx).1;rw[← HNA.out] at this;omega) hx hy));have l1:decide ((k:Int)<(n:Int))=false:=decide_eq_false (by omega);have l2:decide (k<n)=false:=decide_eq_false (by omega);have E:=Lib.hid e;clear e hlt hwr;go_wp2;go_ret;exact⟨by rw[E.out];rfl,_,HW.out⟩
theorem lrow_take {w:World}{base n c k:Nat}{A:Option Addr}{L:List LvS}(h:LvRow w base (.slice A n c) L)(hn:n=L.length)(hk:k≤n) : LvRow w base (.slice A k c) (L.take k)∧sliced A 0 k c 1 = .slice A k c∧k≤c:=by
 subst hn;have hlen:(L.take k).length=k:=by rw[List.length_take];omega
 rcases h.2 with⟨hv,h0⟩ | ⟨g,cap,cur,hv,hg,hh,hn,hm,hsz,ht⟩
 ·obtain⟨rfl,-,rfl⟩:=Value.slice.inj hv;obtain rfl:k=0:=by omega
  rw[List.take_zero];exact⟨LvRow.nil _ _,rfl,Nat.le_refl _⟩
 ·obtain⟨rfl,-,rfl⟩:=Value.slice.inj hv;refine⟨⟨?_,Or.inr ⟨g,c,cur,by rw[hlen],hg,hh,by rw[hlen];omega,hm,hsz, ?_⟩⟩, ?_,by omega⟩
  ·unfold lvals;rw[List.length_map,Nat.mul_one]
  ·rw[hlen];have h2:cur.toList.take (k*1)=(cur.toList.take (L.length*1)).take (k*1):=by rw[List.take_take,Nat.mul_one,Nat.mul_one,Nat.min_eq_left hk]
   rw[h2,ht];unfold lvals;rw[List.map_take,Nat.mul_one]
  ·unfold sliced;by_cases hc:c=0
   ·rw[if_pos (by omega)];simp
   ·rw[if_neg (by omega)];simp[Addr.add]
theorem lslice_to {n c k:Nat}{A:Option Addr}(hk:k≤c)(e:sliced A 0 k c 1 = .slice A k c)(W:World) : (Instr.slice 38 (.slice A n c) none (some (.int .i64 (k:Nat))) none).run Tryz.prog W = .ok (.slice A k c) W:=by
 have hz:(sizeOf (Tryz.prog.elem 38)).run Tryz.prog W = .ok 1 W:=by simp[go_sem]
 rw[run_slice_h W _ _ _ c Tryz.underlying38 .i64 _ (by omega) (by omega),hz];show Result.ok (sliced _ _ _ _ _) W=_;rw[Int.toNat_natCast,e]
def TrimEnd (w:World)(base:Nat)(M:List LvS)(e:Ending)(w':World) : Prop:=∃ A t c,e = .returned (.slice A t c)∧t=(trimL (lvl M)).length∧LvsNew w' base (.slice A t c) (trimL (lvl M))∧w'=w
theorem trimN_succ_no {R:LvL}{k:Nat}{x:List Int}(hx:R[k]? = some x)(h:x.length≠0) : trimN R (k+1)=k+1:=by
 unfold trimN;rw[if_neg];rw[List.getD_eq_getElem?_getD,hx];exact fun e=>h (by rw[show x=[] from e];rfl)
theorem trimN_succ_yes {R:LvL}{k:Nat}{x:List Int}(hx:R[k]? = some x)(h:x.length=0) : trimN R (k+1)=trimN R k:=by
 rw[trimN,if_pos];rw[List.getD_eq_getElem?_getD,hx];exact List.length_eq_zero_iff.1 h
theorem trim_told {w:World}{base n c k:Nat}{A:Option Addr}{M:List LvS}(h:LvRow w base (.slice A n c) M)(ho:LvOwn w base M)(hn:n=M.length)(hk:k=trimN (lvl M) n) :
  k=(trimL (lvl M)).length∧LvsNew w base (.slice A k c) (trimL (lvl M)):=by
 have hle:=trimN_le (lvl M) n;have e:trimL (lvl M)=(lvl M).take k:=by unfold trimL;rw[lvl_length,← hn,hk]
 refine⟨by rw[e,List.length_take,lvl_length];omega,M.take k,(lrow_take h hn (by omega)).1,ho.take k,by rw[e,lvl_take]⟩
theorem trimmed_any (A:Option Addr)(n c base:Nat)(M:List LvS)(w:World)(h:LvRow w base (.slice A n c) M)(ho:LvOwn w base M)(hn:n=M.length)(hl:n≤100000) :
  Calls Tryz.prog 102 #[.slice A n c] w (TrimEnd w base M):=by
 have HT:=Lib.hid (fun k (hk:k=trimN (lvl M) n)=>trim_told h ho hn hk);have HS:=Lib.hid (fun k m (hk:k≤n) W=>lslice_to (n:=m) (lrow_take h hn hk).2.2 (lrow_take h hn hk).2.1 W)
 have HC:Hid (∀ j,j<n→∃ g A' m c',A=some ⟨g,0,none⟩∧w.cell? ⟨g,j,none⟩=some (.slice A' m c')∧(m≠0→trimN (lvl M) (j+1)=j+1)∧(m=0→trimN (lvl M) (j+1)=trimN (lvl M) j)):=Lib.hid fun j hj=>by
  obtain⟨g,rfl,-,-,-⟩:=LvRow.some_ h (by omega);obtain⟨y,hy⟩:∃ y,M[j]? = some y:=⟨_,List.getElem?_eq_getElem (by omega)⟩
  obtain⟨c1,-⟩:=LvRow.cell h hn hy;obtain⟨A',c',e⟩:=(ho y (List.mem_of_getElem? hy)).slice;rw[e] at c1;exact⟨g,A',_,c',rfl,c1,fun h=>trimN_succ_no (lvl_at hy) h,fun h=>trimN_succ_yes (lvl_at hy) h⟩
 unfold TrimEnd;generalize (trimL (lvl M)).length=tl at *;generalize trimL (lvl M)=TR at *;clear h ho hn;generalize hf:trimN (lvl M)=f at *;have HF:=Lib.hid (show f 0=0 by rw[← hf];rfl);clear hf;go_enter Tryz.func102,Tryz.ntmps102;go_wp2;go_loopw [0] (fun u wr=>∃ k:Nat,k≤n∧u = .slice A k c∧f k=f n∧wr=w) (fun u _=>match u with | .slice _ k _=>k | _=>0)
 case atStart=>exact⟨n,Nat.le_refl _,rfl,rfl,rfl⟩
 case round =>
  obtain⟨k,hk,rfl,hfk,rfl⟩:=hrel;have HFK:=Lib.hid hfk;clear hfk;cases k with
  | zero =>
    obtain⟨h1,h2⟩:=HT.out 0 (by rw[← HFK.out,HF.out]);have H2:=Lib.hid h2;clear h2;go_wp2;go_ret;exact⟨_,_,_,rfl,h1,H2.out,rfl⟩
  | succ j =>
    obtain⟨g,A',m,c',rfl,c1,h1,h2⟩:=HC.out j (by omega);have q1:decide ((0:Int)<((j+1:Nat):Int))=true:=decide_eq_true (by omega);have q2:IntKind.i64.wrap (((j+1:Nat):Int)-1)=(j:Int):=by rw[IntWalk.i64_in _ ⟨by omega,by omega⟩];omega
    have q3:(j:Int)<((j+1:Nat):Int):=by omega
    by_cases h0:m=0
    ·subst h0;have HE:=Lib.hid ((h2 rfl).symm.trans HFK.out);have hs:=fun W=>HS.out j (j+1) (by omega) W
     clear h1 h2;go_wp2;exact⟨⟨j,by omega,rfl,HE.out,trivial⟩,by simp⟩
    ·obtain⟨h3,h4⟩:=HT.out (j+1) (by rw[← HFK.out,h1 h0]);have q4:(((m:Nat):Int)==0)=false:=beq_eq_false_iff_ne.2 (by omega);have q5:(m==0)=false:=beq_eq_false_iff_ne.2 h0;have H3:=Lib.hid h3;have H4:=Lib.hid h4;clear h1 h2 h3 h4 h0;go_wp2;go_ret;exact⟨_,_,_,rfl,H3.out,H4.out,rfl⟩
def RowsAt (w:World)(g:Nat)(L:LvL)(wr:World) : Prop:=∃ M,LvRow wr w.heap.size (.slice (some ⟨g,0,none⟩) 5 5) M∧LvOwn wr w.heap.size M∧LvApart M∧lvl M=L∧L.length=5∧Below w.heap.size w wr
theorem FillAt.rows {w wr:World}{g:Nat}{R:LvL}(h:FillAt w g 5 R R.length wr)(hR:R.length≤5) : RowsAt w g (wideL R) wr:=by
 obtain⟨M,h1,h2,h3,h4,h5⟩:=h;exact⟨M,h1,h2,h3,h4.trans (wide_fill R),wideL_length hR,h5⟩
theorem RowsAt.at_ {w wr:World}{g k:Nat}{L:LvL}(h:RowsAt w g L wr)(hk:k<5) : ∃ A c,wr.cell? ⟨g,k,none⟩=some (.slice A (L.getD k []).length c)∧wr.frozen? ⟨g,k,none⟩=false∧IRow wr w.heap.size (.slice A (L.getD k []).length c) (L.getD k []):=by
 obtain⟨M,h1,h2,h3,rfl,h5,h6⟩:=h;rw[lvl_length] at h5;obtain⟨y,hy⟩:∃ y,M[k]? = some y:=⟨_,List.getElem?_eq_getElem (by omega)⟩
 obtain⟨c1,c2⟩:=LvRow.cell h1 h5.symm hy;have ho:=h2 y (List.mem_of_getElem? hy);obtain⟨A,c,e⟩:=ho.slice;rw[e] at c1 ho;rw[lvl_getD hy];exact⟨A,c,c1,c2,ho⟩
theorem RowsAt.put {w wr:World}{g k:Nat}{L:LvL}(h:RowsAt w g L wr)(hk:k<5)(hl:(L.getD k []).length≤100000)(x:Int)(ty:TypeId) :
  ∃ A0 m c0 A c w2,wr.cell? ⟨g,k,none⟩=some (.slice A0 m c0)∧(Builtin.append_ #[96,96] ty #[.slice A0 m c0,.slice (some ⟨wr.heap.size,0,none⟩) 1 1]).run Tryz.prog (wr.alloc (.cells #[.int .i64 x] 3)) = .ok (.slice A (m+1) c) w2 ∧
   (∃ u,w2.cell? ⟨g,k,none⟩=some u)∧w2.frozen? ⟨g,k,none⟩=false∧RowsAt w g (putLv L k x) (w2.setCell ⟨g,k,none⟩ (.slice A (m+1) c)):=by
 obtain⟨M,h1,h2,h3,rfl,h5,h6⟩:=h;rw[lvl_length] at h5;obtain⟨y,hy⟩:∃ y,M[k]? = some y:=⟨_,List.getElem?_eq_getElem (by omega)⟩
 obtain⟨c1,c2⟩:=LvRow.cell h1 h5.symm hy;have ho:=h2 y (List.mem_of_getElem? hy);obtain⟨A0,c0,e⟩:=ho.slice;rw[lvl_getD hy] at hl;have hB:=(Below.refl wr.heap.size wr).alloc (Nat.le_refl _) (.cells #[.int .i64 x] 3);have ho1:=IRow.below ho hB (Nat.le_refl _);obtain⟨A,c,w2,a1,a2,a3,a4⟩:=ints_append (m:=[x]) ho1 (int_one wr x) (by simp;omega) (Nat.le_trans h6.size hB.size) ty;have h1':=LvRow.grown (LvRow.below h1 hB (Nat.le_refl _)) ho1 a3
 have h2':∀ z∈M,z.v.ownBlock≠y.v.ownBlock∨z.v.ownBlock=none→IRow w2 w.heap.size z.v z.l:=fun z hz hne =>
  own_touch (IRow.below (h2 z hz) hB (Nat.le_refl _)) (F:=y.v.ownBlock.toList) (Touch.grown (Touch.refl _ _) a3 (fun q hq=>Or.inl (by rw[hq];simp))) (fun b hb hm=>by
   rcases hne with hne | hne
   ·exact hne (by rw[hb];have:y.v.ownBlock=some b:=by simpa using hm
                  rw[this])
   ·rw[hb] at hne;cases hne)
 obtain⟨g',e',e1,e2,-⟩:=LvRow.some_ h1 (by omega);obtain rfl:g=g':=by cases e';rfl
 obtain⟨d1,d2⟩:=LvRow.cell h1' h5.symm hy;have hz1:y.l.length+[x].length=y.l.length+1:=rfl;rw[hz1] at a1 a2 a4;rw[e] at c1 a1;have hbw:Below w.heap.size w w2:=(h6.alloc h6.size _).trans (igrown_below a3 (Nat.le_trans h6.size hB.size) (fun q hq=>(IRow.block ho q hq).1));refine⟨A0,y.l.length,c0,A,c,w2,c1,a1,⟨_,d1⟩,d2,M.set k ⟨.slice A (y.l.length+1) c,y.l++[x]⟩,LvRow.put h1' h5.symm _,fun z hz=>?_,h3.set fun q hq j z hj hz hq2=>?_, ?_,by rw[putLv_length,lvl_length,h5],hbw.setCell e1 _⟩
 ·obtain⟨i,hi⟩:=List.getElem?_of_mem hz;rw[List.getElem?_set] at hi;split at hi
  ·split at hi
   ·obtain rfl:(⟨.slice A (y.l.length+1) c,y.l++[x]⟩:LvS)=z:=by simpa using hi
    exact IRow.far_l a2 h1'
   ·cases hi
  ·rename_i hne;refine IRow.far_l (h2' z (List.mem_of_getElem? hi) ?_) h1';cases hb:z.v.ownBlock with
   | none=>exact Or.inr rfl
   | some b=>exact Or.inl (fun e2=>h3 i k z y hi hy (fun e3=>hne e3.symm) b hb e2.symm)
 ·have hq':(Value.slice A (y.l.length+1) c).ownBlock=some q:=hq;rcases a4 with a4 | a4
  ·rw[hq'] at a4;exact h3 j k z y hz hy hj q hq2 a4.symm
  ·rw[hq'] at a4;have b1:=(IRow.block (h2 z (List.mem_of_getElem? hz)) q hq2).2;have:q=(wr.alloc (.cells #[.int .i64 x] 3)).heap.size:=by injection a4
   have:=hB.size;omega
 ·rw[lvl_set];unfold putLv;rw[lvl_getD hy]
theorem RowsAt.row {w wr:World}{g:Nat}{L:LvL}(h:RowsAt w g L wr) : ∃ M,LvRow wr w.heap.size (.slice (some ⟨g,0,none⟩) 5 5) M∧LvOwn wr w.heap.size M∧5=M.length∧lvl M=L∧Below w.heap.size w wr:=by
 obtain⟨M,h1,h2,h3,rfl,h5,h6⟩:=h;exact⟨M,h1,h2,by rw[← lvl_length,h5],rfl,h6⟩
theorem RowsAt.trimmed {w wr:World}{g:Nat}{L:LvL}(h:RowsAt w g L wr) : Calls Tryz.prog 102 #[.slice (some ⟨g,0,none⟩) 5 5] wr fun e w'=>∃ A c,e = .returned (.slice A (trimL L).length c)∧LvsNew w' w.heap.size (.slice A (trimL L).length c) (trimL L)∧Below w.heap.size w w':=by
 obtain⟨M,h1,h2,h3,rfl,h5⟩:=h.row;refine(trimmed_any _ 5 5 _ M wr h1 h2 h3 (by omega)).mono ?_;rintro e w' ⟨A,t,c,rfl,rfl,h6,rfl⟩;exact⟨A,c,rfl,h6,h5⟩
def LvsEnd (w:World)(T:LvL)(E:Int)(e:Ending)(w':World) : Prop:=∃ A c,e = .returned (.tuple #[.slice A T.length c,.int .i64 E])∧LvsNew w' w.heap.size (.slice A T.length c) T∧Below w.heap.size w w'
theorem lvs_told_none {w:World}{T:LvL}{E E':Int}(h1:E=E')(h2:T=[]) : Hid (∀ w',Below w.heap.size w w'→LvsEnd w T E (.returned (.tuple #[.slice none 0 0,.int .i64 E'])) w'):=Lib.hid fun w' hb=>by
 subst h1 h2;exact⟨none,0,rfl,LvsNew.nil _ _,hb⟩
theorem add_two {R:LvL}{n:Int}(h:validL R=false∨n<0∨n∈R.flatten) : addLE R n=2∧addL R n=[]:=by
 have e:addLE R n=2:=by unfold addLE;rw[if_pos h]
 exact⟨e,by unfold addL;rw[e];rfl⟩
theorem add_full {R:LvL}{n:Int}(h1:validL R=true)(h2:0≤n)(h3:n ∉ R.flatten)(h:R.flatten.length=40) : addLE R n=60∧addL R n=[]:=by
 have e:addLE R n=60:=by
  unfold addLE;rw[if_neg (by rintro (e | e | e);rw[h1] at e;cases e;omega;exact h3 e),if_pos h]
 exact⟨e,by unfold addL;rw[e];rfl⟩
theorem add_some {R:LvL}{n:Int}(h1:validL R=true)(h2:0≤n)(h3:n ∉ R.flatten)(h:R.flatten.length≠40) : addLE R n=0∧addL R n=trimL (putLv (wideL R) 0 n):=by
 have e:addLE R n=0:=by
  unfold addLE;rw[if_neg (by rintro (e | e | e);rw[h1] at e;cases e;omega;exact h3 e),if_neg h]
 exact⟨e,by unfold addL;rw[if_pos e]⟩
theorem valid_small {R:LvL}(h:validL R=true) : R.length≤5∧R.flatten.length≤40:=⟨(of_decide_eq_true h).1,(of_decide_eq_true h).2.1⟩
set_option maxHeartbeats 1000000 in
theorem ladd_any (v:Value)(R:LvL)(n:Int)(w:World)(h:LvsHas w v R)(hl:R.flatten.length≤100000)(hL:R.length≤100000) :
  Calls Tryz.prog 40 #[v,.int .i64 n] w (LvsEnd w (addL R n) (addLE R n)):=by
 have HV:=Lib.hid (lvalid_any v R w h hl hL);have HM:=Lib.hid (fun W (hW:Below w.heap.size w W)=>comes_any v R n W (h.below hW (Nat.le_refl _)) hl hL);have HA:=Lib.hid (fun W (hW:Below w.heap.size w W)=>lall_any v R W (h.below hW (Nat.le_refl _)) hl hL);cases hv:validL R with
 | false =>
   obtain⟨e1,e2⟩:=add_two (R:=R) (n:=n) (Or.inl hv);have HP:=lvs_told_none (w:=w) e1 e2;rw[hv] at HV;clear h hl hL hv e1 e2 HM HA;generalize addL R n=T at *;generalize addLE R n=E at *;go_enter Tryz.func40,Tryz.ntmps40;go_wp2_with fail;refine HV.out.mono ?_;rintro e w' ⟨rfl,hb⟩;have HB:=Lib.hid hb;clear hb;go_wp2;go_ret2;exact HP.out _ HB.out
 | true =>
   rw[hv] at HV;by_cases hn:n<0∨n∈R.flatten
   ·obtain⟨e1,e2⟩:=add_two (R:=R) (n:=n) (Or.inr hn);have HP:=lvs_told_none (w:=w) e1 e2
    have hf:(decide (0≤n)&&!decide (n∈R.flatten))=false:=by
     rcases hn with hn | hn
     ·rw[decide_eq_false (by omega:¬ 0≤n)];rfl
     ·rw[decide_eq_true hn];simp
    rw[hf] at HM;clear h hl hL hv e1 e2 HA hn hf;generalize addL R n=T at *;generalize addLE R n=E at *;go_enter Tryz.func40,Tryz.ntmps40;go_wp2_with fail;refine HV.out.mono ?_;rintro e w' ⟨rfl,hb⟩;have HB:=Lib.hid hb;clear hb;go_wp2_with fail;refine(HM.out _ HB.out).mono ?_;rintro e w2 ⟨rfl,hb⟩;have HB2:=Lib.hid (bj HB.out hb);clear hb;go_wp2;go_ret2;exact HP.out _ HB2.out
   ·have hn0:0≤n:=by omega
    have hnm:n ∉ R.flatten:=fun e=>hn (Or.inr e)
    have hf:(decide (0≤n)&&!decide (n∈R.flatten))=true:=by rw[decide_eq_true hn0,decide_eq_false hnm];rfl
    rw[hf] at HM;unfold IntsOut at HA;by_cases h40:R.flatten.length=40
    ·obtain⟨e1,e2⟩:=add_full hv hn0 hnm h40;have HP:=lvs_told_none (w:=w) e1 e2;rw[h40] at HA;clear h hl hL hv e1 e2 hn hf hn0 hnm h40;generalize addL R n=T at *;generalize addLE R n=E at *;go_enter Tryz.func40,Tryz.ntmps40;go_wp2_with fail;refine HV.out.mono ?_;rintro e w' ⟨rfl,hb⟩;have HB:=Lib.hid hb;clear hb;go_wp2_with fail;refine(HM.out _ HB.out).mono ?_;rintro e w2 ⟨rfl,hb⟩;have HB2:=Lib.hid (bj HB.out hb);clear hb;go_wp2_with fail;refine(HA.out _ HB2.out).mono ?_;rintro e w3 ⟨A3,c3,rfl,-,hb⟩;have HB3:=Lib.hid (bj HB2.out hb);clear hb;go_wp2;go_ret2;exact HP.out _ HB3.out
    ·obtain⟨e1,e2⟩:=add_some hv hn0 hnm h40;obtain⟨hL5,hl40⟩:=valid_small hv;have HC:=Lib.hid (fun W (hW:Below w.heap.size w W)=>copied_any v R W (h.below hW (Nat.le_refl _)) hl hL5);have HFR:=Lib.hid (fun W W' g (hf:FillAt W g 5 R R.length W')=>hf.rows hL5)
     have HG0:=Lib.hid (show((wideL R).getD 0 []).length≤100000 by
      rw[wideL_getD,List.getD_eq_getElem?_getD];cases hx:R[0]? with
      | none=>exact Nat.zero_le _
      | some x=>have:=flat_one hx;exact Nat.le_trans this hl)
     have q1:(((R.flatten.length:Nat):Int)==40)=false:=beq_eq_false_iff_ne.2 (by omega);have q2:(R.flatten.length==40)=false:=beq_eq_false_iff_ne.2 h40;have HE1:=Lib.hid e1;have HE2:=Lib.hid e2;unfold WideEnd at HC;clear h hl hL hv e1 e2 hn hf hn0 hnm h40 hL5 hl40;generalize R.flatten=l at *;generalize l.length=m at *;generalize addL R n=T at *;generalize addLE R n=E at *;go_enter Tryz.func40,Tryz.ntmps40;go_wp2_with fail;refine HV.out.mono ?_;rintro e w' ⟨rfl,hb⟩;have HB:=Lib.hid hb;clear hb;go_wp2_with fail;refine(HM.out _ HB.out).mono ?_;rintro e w2 ⟨rfl,hb⟩;have HB2:=Lib.hid (bj HB.out hb);clear hb;go_wp2_with fail;refine(HA.out _ HB2.out).mono ?_;rintro e w3 ⟨A3,c3,rfl,-,hb⟩;have HB3:=Lib.hid (bj HB2.out hb);clear hb;go_wp2_with fail;refine(HC.out _ HB3.out).mono ?_;rintro e w4 ⟨g,rfl,hfill⟩;obtain⟨A0,m0,c0,A4,c4,w5,a1,a2,⟨u,a3⟩,a4,a5⟩:=(HFR.out _ _ _ hfill).put (k:=0) (by omega) HG0.out n 96;have HT:=Lib.hid a5.trimmed;have HA2:=Lib.hid a2;rw[← HE2.out] at HT;clear hfill a2 a5;go_wp2_with (first | (at_builtin;refine wpList_append_two rfl _ _ rfl rfl rfl HA2.out ?_) | fail);refine HT.out.mono ?_;rintro e w6 ⟨A6,c6,rfl,h6,hb6⟩;have H6:=Lib.hid (h6.down HB3.out.size);have HB6:=Lib.hid (bj HB3.out hb6);have HE3:=Lib.hid (show LvsEnd w T E (.returned (.tuple #[.slice A6 T.length c6,.int .i64 0])) w6 from⟨A6,c6,by rw[HE1.out],H6.out,HB6.out⟩);clear h6 hb6;go_wp2;go_ret2;exact HE3.out
end
end Go.Proofs.YtokbfellcadkpaaGreat
