/- ZnMfValid, ZnMfRead0, ZnMfRead, ZnMfSame -/
import Derived.Test.YtokbfellcadkpaaGreatPn04
import Derived.Test.YtokbfellcadkpaaGreatPn17
import Derived.Deep.RegionHeld3
import Derived.Deep.LoopGhost
import Derived.WalkMore
import Derived.Shelf.Abstract
import Derived.BigQuiet
namespace Go.Proofs.YtokbfellcadkpaaGreat
set_option maxRecDepth 100000
set_option linter.unusedVariables false
section
open Go.RowKit Go.Shelf
def manV (n c:Int)(d:Nat)(v:Value) : Value:=.agg #[.int .i64 n,.int .i64 c,.int .u64 (d:Nat),v]
abbrev manO (n c:Int)(d:Nat)(v:Value) : Obj:=.cells #[.int .i64 n,.int .i64 c,.int .u64 (d:Nat),v] 40
theorem mayM_iff (n c:Int)(d:Nat)(R:LvL)(h0:0≤n)(h1:n≤1000000)(h2:0≤c)(h3:c≤2147483647)(hv:validL R=true) : mayM ⟨n,c,d,R⟩=true↔∀ x∈R.flatten,x<n:=by
 unfold mayM;rw[decide_eq_true_iff];exact⟨fun h=>h.2.2.2.2.2,fun h=>⟨h0,h1,h2,h3,of_decide_eq_true hv,h⟩⟩
theorem mayM_lv {n c:Int}{d:Nat}{R:LvL}(hv:validL R=false) : mayM ⟨n,c,d,R⟩=false:=decide_eq_false fun h=>(of_decide_eq_false hv) h.2.2.2.2.1
theorem mayM_nums {n c:Int}{d:Nat}{R:LvL}(h:n<0∨1000000<n∨c<0∨2147483647<c) : mayM ⟨n,c,d,R⟩=false:=decide_eq_false fun hm=>by
 obtain⟨h1,h2,h3,h4,-⟩:=hm;simp only at h1 h2 h3 h4;omega
theorem mcell {B:Nat}{w w':World}{p:Addr}{v:Value}(hb:Below B w w')(hp:p.block<B)(h:w.cell? p=some v) : w'.cell? p=some v:=(hb.cell hp).trans h
theorem mval_nums (n c:Int)(d:Nat)(A:Option Addr)(k cp:Nat)(R:LvL)(w:World)(hq:n<0∨1000000<n∨c<0∨2147483647<c) :
  Calls Tryz.prog 153 #[manV n c d (.slice A k cp)] w fun e w'=>e = .returned (.bool (mayM ⟨n,c,d,R⟩))∧Below w.heap.size w w':=by
 rw[mayM_nums hq];have hb:=(Below.refl w.heap.size w).alloc (Nat.le_refl _) (manO n c d (.slice A k cp));unfold manV;by_cases h0:n<0
 ·have q0:decide (n<0)=true:=decide_eq_true h0;clear hq;go_enter Tryz.func153,Tryz.ntmps153;go_wp2;go_ret;exact⟨rfl,hb⟩
 ·have q0:decide (n<0)=false:=decide_eq_false h0;by_cases h1:1000000<n
  ·have q1:decide (1000000<n)=true:=decide_eq_true h1;clear hq;go_enter Tryz.func153,Tryz.ntmps153;go_wp2;go_ret;exact⟨rfl,hb⟩
  ·have q1:decide (1000000<n)=false:=decide_eq_false h1;by_cases h2:c<0
   ·have q2:decide (c<0)=true:=decide_eq_true h2;clear hq;go_enter Tryz.func153,Tryz.ntmps153;go_wp2;go_ret;exact⟨rfl,hb⟩
   ·have q2:decide (c<0)=false:=decide_eq_false h2;have h3:2147483647<c:=by omega
    have q3:decide (2147483647<c)=true:=decide_eq_true h3;clear hq;go_enter Tryz.func153,Tryz.ntmps153;go_wp2;go_ret;exact⟨rfl,hb⟩
set_option maxHeartbeats 1000000 in
theorem mval_any (n c:Int)(d:Nat)(A:Option Addr)(k cp:Nat)(R:LvL)(w:World)(h:LvsHas w (.slice A k cp) R)(hl:R.flatten.length≤100000)(hL:R.length≤100000) :
  Calls Tryz.prog 153 #[manV n c d (.slice A k cp)] w fun e w'=>e = .returned (.bool (mayM ⟨n,c,d,R⟩))∧Below w.heap.size w w':=by
 by_cases hq:n<0∨1000000<n∨c<0∨2147483647<c
 ·exact mval_nums n c d A k cp R w hq
 have q0:decide (n<0)=false:=decide_eq_false (by omega);have q1:decide (1000000<n)=false:=decide_eq_false (by omega);have q2:decide (c<0)=false:=decide_eq_false (by omega);have q3:decide (2147483647<c)=false:=decide_eq_false (by omega);have hb:=(Below.refl w.heap.size w).alloc (Nat.le_refl _) (manO n c d (.slice A k cp));have HB:=Lib.hid hb;have h0:=h.below hb (Nat.le_refl _);have HV:=Lib.hid (lvalid_any _ R _ h0 hl hL);unfold manV;cases hv:validL R with
 | false =>
   rw[hv] at HV;rw[mayM_lv hv];clear h hb h0 hv hq;go_enter Tryz.func153,Tryz.ntmps153;go_wp2_with fail;refine HV.out.mono ?_;rintro e w1 ⟨rfl,hb1⟩;have HB1:=Lib.hid hb1;clear hb1;go_wp2;go_ret;exact⟨rfl,bj HB.out HB1.out⟩
 | true =>
   rw[hv] at HV;have HM:=Lib.hid (mayM_iff n c d R (by omega) (by omega) (by omega) (by omega) hv);have HALL:=Lib.hid (fun W (hW:Below (w.heap.size+1) (w.alloc (manO n c d (.slice A k cp))) W)=>lall_any _ R W (h0.below hW (by simp)) hl hL);obtain⟨m,hm⟩:∃ m,m=R.flatten.length:=⟨_,rfl⟩
   have HN:=Lib.hid hm;unfold IntsOut at HALL;rw[← hm] at HALL hl;clear hm;generalize mayM ⟨n,c,d,R⟩=q at *;generalize R.flatten=l at *;have c0:(w.alloc (manO n c d (.slice A k cp))).cell? ⟨w.heap.size,0,none⟩=some (.int .i64 n):=World.cell?_alloc_at _ _ _ _ rfl;have c3:(w.alloc (manO n c d (.slice A k cp))).cell? ⟨w.heap.size,3,none⟩=some (.slice A k cp):=World.cell?_alloc_at _ _ _ _ rfl;have C0:=Lib.hid c0;have C3:=Lib.hid c3;clear h hb h0 hv hq c0 c3;go_enter Tryz.func153,Tryz.ntmps153;go_wp2_with fail;refine HV.out.mono ?_;rintro e w1 ⟨rfl,hb1⟩;rw[World.size_alloc] at hb1;have c0:=mcell hb1 (show w.heap.size<w.heap.size+1 by omega) C0.out;have c3:=mcell hb1 (show w.heap.size<w.heap.size+1 by omega) C3.out;have hz1:=hb1.size;rw[World.size_alloc] at hz1;have HB1:=Lib.hid (HB.out.trans (hb1.mono (by simp)));have HA:=Lib.hid (HALL.out w1 hb1);clear hb1 HALL HV;go_wp2_with fail;refine HA.out.mono ?_;rintro e w2 ⟨A2,c2,rfl,hr,hb2⟩;have HB2:=Lib.hid (bj HB1.out (hb2.mono (by have:=HB1.out.size;omega)));have d0:=mcell hb2 (show w.heap.size<w1.heap.size by omega) c0;obtain⟨A',off,cap,ev,-,hc⟩:=(IRow.in_ hr).form;have ev':(Value.slice A2 m c2) = .slice A' m cap:=by rw[ev,← HN.out]
   obtain⟨rfl,-,rfl⟩:=Value.slice.inj ev';have HC:=Lib.hid hc;clear hr hb2 hc HA c0 c3 ev ev';go_wp2;go_loopw [33] (fun i wr=>∃ j:Nat,j≤m∧i = .int .i64 j∧(∀ i x,i<j→l[i]? = some x→x<n)∧wr=w2) (fun i _=>m-(intOf i).toNat)
   case atStart=>exact⟨0,Nat.zero_le _,rfl,fun i x hi=>(by omega),rfl⟩
   case round =>
    obtain⟨j,hj,rfl,hall,rfl⟩:=hrel;have HAL:=Lib.hid hall;clear hall;by_cases hlt:j<m
    ·have l1:(j:Int)<(m:Int):=by omega
     obtain⟨x,hx⟩:∃ x,l[j]? = some x:=⟨_,List.getElem?_eq_getElem (by rw[← HN.out];exact hlt)⟩
     obtain⟨b,rfl,hb,cx⟩:=HC.out j x hx;have HX:=Lib.hid hx;clear hx hb;by_cases hxn:n≤x
     ·have qf:q=false:=by
       cases q with
       | false=>rfl
       | true=>have:=HM.out.1 rfl x (List.mem_of_getElem? HX.out);omega
      subst qf;have q4:decide (n≤x)=true:=decide_eq_true hxn;go_wp2;go_ret;exact⟨rfl,HB2.out⟩
     ·have q4:decide (n≤x)=false:=decide_eq_false hxn;go_wp2;refine⟨⟨j+1,by omega,by go_num,fun i y hi hy=>?_,trivial⟩,by simp[intOf];omega⟩;rcases Nat.lt_or_ge i j with e | e
      ·exact HAL.out i y e hy
      ·obtain rfl:i=j:=by omega
       rw[HX.out] at hy;have:=Option.some.inj hy;omega
    ·obtain rfl:j=m:=by omega
     have l1:¬ (j:Int)<(j:Int):=by omega
     have qt:q=true:=HM.out.2 fun x hx=>by
      obtain⟨i,hi⟩:=List.getElem?_of_mem hx;exact HAL.out i x (by have:=(List.getElem?_eq_some_iff.1 hi).1;rw[← HN.out] at this;exact this) hi
     subst qt;clear hlt;go_wp2;go_ret;exact⟨rfl,HB2.out⟩
end
end Go.Proofs.YtokbfellcadkpaaGreat
namespace Go.Proofs.YtokbfellcadkpaaGreat
open Go.RowKit Go.Shelf
set_option linter.unusedVariables false
set_option maxRecDepth 100000
structure RdB (w:World)(s:ByteArray)(p:Nat)(x0 x1:Int)(x2:Nat)(v:Value)(wr:World) : Prop where
 bel:Below w.heap.size w wr
 b2:Blok wr w.heap.size 40 #[.int .i64 0,.int .i64 0,.int .u64 0,.slice none 0 0]
 b3:Blok wr (w.heap.size+1) 271 #[.string (restAt s p)]
 b4:Blok wr (w.heap.size+2) 40 #[.int .i64 x0,.int .i64 x1,.int .u64 (x2:Nat),v]
section
variable {w wr : World} {s : ByteArray} {p x2 : Nat} {x0 x1 : Int} {v : Value}
theorem RdB.drew (h:RdB w s p x0 x1 x2 v wr) : RdB w s p x0 x1 x2 v wr.drew:=⟨h.bel.drew,h.b2,h.b3,h.b4⟩
theorem RdB.alloc (h:RdB w s p x0 x1 x2 v wr)(o:Obj) : RdB w s p x0 x1 x2 v (wr.alloc o):=⟨h.bel.alloc h.bel.size o,h.b2.alloc o,h.b3.alloc o,h.b4.alloc o⟩
theorem RdB.set (h:RdB w s p x0 x1 x2 v wr){g i:Nat}(hg:w.heap.size+3≤g)(u:Value) : RdB w s p x0 x1 x2 v (wr.setCell ⟨g,i,none⟩ u) :=
 ⟨h.bel.setCell (p:=⟨g,i,none⟩) (show w.heap.size≤g by omega) u,h.b2.far (p:=⟨g,i,none⟩) (show w.heap.size≠g by omega) u,h.b3.far (p:=⟨g,i,none⟩) (show w.heap.size+1≠g by omega) u,h.b4.far (p:=⟨g,i,none⟩) (show w.heap.size+2≠g by omega) u⟩
theorem RdB.rest (h:RdB w s p x0 x1 x2 v wr)(q:Nat) : RdB w s q x0 x1 x2 v (wr.setCell ⟨w.heap.size+1,0,none⟩ (.string (restAt s q))) :=
 ⟨h.bel.setCell (p:=⟨w.heap.size+1,0,none⟩) (show w.heap.size≤w.heap.size+1 by omega) _,h.b2.far (p:=⟨w.heap.size+1,0,none⟩) (show w.heap.size≠w.heap.size+1 by omega) _,h.b3.put 0 _,h.b4.far (p:=⟨w.heap.size+1,0,none⟩) (show w.heap.size+2≠w.heap.size+1 by omega) _⟩
theorem RdB.set0 (h:RdB w s p x0 x1 x2 v wr)(y:Int) : RdB w s p y x1 x2 v (wr.setCell ⟨w.heap.size+2,0,none⟩ (.int .i64 y)) :=
 ⟨h.bel.setCell (p:=⟨w.heap.size+2,0,none⟩) (show w.heap.size≤w.heap.size+2 by omega) _,h.b2.far (p:=⟨w.heap.size+2,0,none⟩) (show w.heap.size≠w.heap.size+2 by omega) _,h.b3.far (p:=⟨w.heap.size+2,0,none⟩) (show w.heap.size+1≠w.heap.size+2 by omega) _,h.b4.put 0 _⟩
theorem RdB.set1 (h:RdB w s p x0 x1 x2 v wr)(y:Int) : RdB w s p x0 y x2 v (wr.setCell ⟨w.heap.size+2,1,none⟩ (.int .i64 y)) :=
 ⟨h.bel.setCell (p:=⟨w.heap.size+2,1,none⟩) (show w.heap.size≤w.heap.size+2 by omega) _,h.b2.far (p:=⟨w.heap.size+2,1,none⟩) (show w.heap.size≠w.heap.size+2 by omega) _,h.b3.far (p:=⟨w.heap.size+2,1,none⟩) (show w.heap.size+1≠w.heap.size+2 by omega) _,h.b4.put 1 _⟩
theorem RdB.set2 (h:RdB w s p x0 x1 x2 v wr)(y:Nat) : RdB w s p x0 x1 y v (wr.setCell ⟨w.heap.size+2,2,none⟩ (.int .u64 (y:Nat))) :=
 ⟨h.bel.setCell (p:=⟨w.heap.size+2,2,none⟩) (show w.heap.size≤w.heap.size+2 by omega) _,h.b2.far (p:=⟨w.heap.size+2,2,none⟩) (show w.heap.size≠w.heap.size+2 by omega) _,h.b3.far (p:=⟨w.heap.size+2,2,none⟩) (show w.heap.size+1≠w.heap.size+2 by omega) _,h.b4.put 2 _⟩
theorem RdB.set3 (h:RdB w s p x0 x1 x2 v wr)(u:Value) : RdB w s p x0 x1 x2 u (wr.setCell ⟨w.heap.size+2,3,none⟩ u) :=
 ⟨h.bel.setCell (p:=⟨w.heap.size+2,3,none⟩) (show w.heap.size≤w.heap.size+2 by omega) _,h.b2.far (p:=⟨w.heap.size+2,3,none⟩) (show w.heap.size≠w.heap.size+2 by omega) _,h.b3.far (p:=⟨w.heap.size+2,3,none⟩) (show w.heap.size+1≠w.heap.size+2 by omega) _,h.b4.put 3 _⟩
theorem RdB.take (h:RdB w s p x0 x1 x2 v wr)(hs:s.size≤1100000)(k:Nat)(h1:1≤k)(h8:k≤8) :
  Calls Tryz.prog 223 #[.pointer (some ⟨w.heap.size+1,0,none⟩),.int .i64 (k:Nat)] wr fun e w'=>e = .returned (.int .u64 (num s p k:Nat))∧RdB w s (p+k) x0 x1 x2 v w'∧w'=wr.setCell ⟨w.heap.size+1,0,none⟩ (.string (restAt s (p+k))) :=
 (take_any s p k (w.heap.size+1) wr h1 h8 hs (h.b3.cell 0) (h.b3.frozen 0)).mono fun e w' hr=>⟨hr.1,by rw[hr.2];exact h.rest (p+k),hr.2⟩
theorem RdB.take4 (h:RdB w s p x0 x1 x2 v wr)(hs:s.size≤1100000) : Calls Tryz.prog 223 #[.pointer (some ⟨w.heap.size+1,0,none⟩),.int .i64 4] wr fun e w'=>e = .returned (.int .u64 (num s p 4:Nat))∧RdB w s (p+4) x0 x1 x2 v w'∧w'=wr.setCell ⟨w.heap.size+1,0,none⟩ (.string (restAt s (p+4))):=h.take hs 4 (by decide) (by decide)
theorem RdB.take8 (h:RdB w s p x0 x1 x2 v wr)(hs:s.size≤1100000) : Calls Tryz.prog 223 #[.pointer (some ⟨w.heap.size+1,0,none⟩),.int .i64 8] wr fun e w'=>e = .returned (.int .u64 (num s p 8:Nat))∧RdB w s (p+8) x0 x1 x2 v w'∧w'=wr.setCell ⟨w.heap.size+1,0,none⟩ (.string (restAt s (p+8))):=h.take hs 8 (by decide) (by decide)
theorem RdB.take1 (h:RdB w s p x0 x1 x2 v wr)(hs:s.size≤1100000) : Calls Tryz.prog 223 #[.pointer (some ⟨w.heap.size+1,0,none⟩),.int .i64 1] wr fun e w'=>e = .returned (.int .u64 (num s p 1:Nat))∧RdB w s (p+1) x0 x1 x2 v w'∧w'=wr.setCell ⟨w.heap.size+1,0,none⟩ (.string (restAt s (p+1))):=h.take hs 1 (by decide) (by decide)
theorem RdB.cells (h:RdB w s p x0 x1 x2 v wr) : wr.cell? ⟨w.heap.size+2,0,none⟩=some (.int .i64 x0)∧wr.cell? ⟨w.heap.size+2,1,none⟩=some (.int .i64 x1)∧wr.cell? ⟨w.heap.size+2,2,none⟩=some (.int .u64 (x2:Nat))∧wr.cell? ⟨w.heap.size+2,3,none⟩=some v∧(∀ i,wr.frozen? ⟨w.heap.size+2,i,none⟩=false)∧w.heap.size+2<wr.heap.size :=
 ⟨h.b4.cell 0,h.b4.cell 1,h.b4.cell 2,h.b4.cell 3,fun i=>h.b4.frozen i,h.b4.lt⟩
end
theorem rd_first (s:ByteArray)(w:World)(hs:s.size≤1100000) : Calls Tryz.prog 223 #[.pointer (some ⟨w.heap.size+1,0,none⟩),.int .i64 4] ((w.alloc (.cells #[.int .i64 0,.int .i64 0,.int .u64 0,.slice none 0 0] 40)).alloc (.cells #[.string s] 271))
  fun e w'=>e = .returned (.int .u64 (num s 0 4:Nat))∧w'.heap.size=w.heap.size+2∧RdB w s 4 0 0 0 (.slice none 0 0) (w'.alloc (.cells #[.int .i64 0,.int .i64 0,.int .u64 0,.slice none 0 0] 40)):=by
 have B2:=Blok.new w 40 #[.int .i64 0,.int .i64 0,.int .u64 0,.slice none 0 0];have B2':=B2.alloc (.cells #[.string s] 271);have hb:Below w.heap.size w ((w.alloc (.cells #[.int .i64 0,.int .i64 0,.int .u64 0,.slice none 0 0] 40)).alloc (.cells #[.string s] 271)):=((Below.refl _ _).alloc (Nat.le_refl _) _).alloc (by simp) _;have B3:=Blok.new (w.alloc (.cells #[.int .i64 0,.int .i64 0,.int .u64 0,.slice none 0 0] 40)) 271 #[.string s];generalize hW:(w.alloc (.cells #[.int .i64 0,.int .i64 0,.int .u64 0,.slice none 0 0] 40)).alloc (.cells #[.string s] 271)=W at *;have hz:W.heap.size=w.heap.size+2:=by rw[← hW];simp
 rw[World.size_alloc] at B3;refine(take_any s 0 4 (w.heap.size+1) W (by decide) (by decide) hs ((B3.cell 0).trans (by rw[restAt_zero];rfl)) (B3.frozen 0)).mono fun e w' hr=>?_
 obtain⟨h1,h2⟩:=hr;subst h2;have hz':(W.setCell ⟨w.heap.size+1,0,none⟩ (.string (restAt s (0+4)))).heap.size=w.heap.size+2:=by rw[World.size_setCell];exact hz
 have N:=Blok.new (W.setCell ⟨w.heap.size+1,0,none⟩ (.string (restAt s (0+4)))) 40 #[.int .i64 0,.int .i64 0,.int .u64 0,.slice none 0 0];rw[hz'] at N;exact⟨h1,hz',(hb.setCell (p:=⟨w.heap.size+1,0,none⟩) (show w.heap.size≤w.heap.size+1 by omega) _).alloc (by rw[hz'];omega) _,(B2'.far (p:=⟨w.heap.size+1,0,none⟩) (show w.heap.size≠w.heap.size+1 by omega) _).alloc _,(B3.put 0 _).alloc _,N⟩
theorem int_zeros (n:Nat) : (madeCells #[Value.int .i64 0] (n*1)).toList=(List.replicate n (0:Int)).map intV:=by
 rw[List.map_replicate];apply List.ext_getElem?;intro i;rw[Array.getElem?_toList,List.getElem?_replicate];by_cases h:i<n
 ·rw[if_pos h];unfold madeCells;simp[h,Nat.mod_one,intV]
 ·rw[if_neg h,Array.getElem?_eq_none (by rw[size_madeCells];omega)]
theorem ints_make (n:Nat)(hn:n≤1000000) : ∃ Z:Array Value,(∀ w:World,(Instr.makeSlice 96 (.int .u64 (n:Nat)) (.int .u64 (n:Nat))).run Tryz.prog w = .ok (.slice (some ⟨w.heap.size,0,none⟩) n n) (w.alloc (.cells Z 3))) ∧
  ∀ w:World,IRow (w.alloc (.cells Z 3)) w.heap.size (.slice (some ⟨w.heap.size,0,none⟩) n n) (List.replicate n 0):=by
 obtain⟨i0,hi,hz0,hz1,hz2⟩:=info_parts info_int;refine⟨madeCells #[Value.int .i64 0] (n*1),fun w=>?_,fun w=>?_⟩
 ·have h:=run_makeSlice (P:=Tryz.prog) w 96 3 i0 _ Tryz.underlying96 hi hz0 .u64 .u64 (n:Int) (n:Int) (by omega) (Int.le_refl _) (by rw[hz1];omega) (by rw[hz2];omega) (by omega);rw[hz1,Int.toNat_natCast] at h;exact h
 ·have h:=World.ownsRow_lit (base:=w.heap.size) (e:=3) (size:=1) w (madeCells #[Value.int .i64 0] (n*1)) n (Nat.le_refl _) (by unfold maxLen;omega) (size_madeCells _ _);unfold IRow;rw[List.length_replicate,← int_zeros];exact h
theorem lvs_make (n:Nat)(hn:n≤1000000) : ∃ Z:Array Value,(∀ w:World,(Instr.makeSlice 38 (.int .u64 (n:Nat)) (.int .u64 (n:Nat))).run Tryz.prog w = .ok (.slice (some ⟨w.heap.size,0,none⟩) n n) (w.alloc (.cells Z 96))) ∧
  ∀ w:World,LvRow (w.alloc (.cells Z 96)) w.heap.size (.slice (some ⟨w.heap.size,0,none⟩) n n) (List.replicate n lvNil):=by
 obtain⟨i0,hi,hz0,hz1,hz2⟩:=info_parts info_lv;refine⟨madeCells #[Value.slice none 0 0] (n*1),fun w=>?_,fun w=>?_⟩
 ·have h:=run_makeSlice (P:=Tryz.prog) w 38 96 i0 _ Tryz.underlying38 hi hz0 .u64 .u64 (n:Int) (n:Int) (by omega) (Int.le_refl _) (by rw[hz1];omega) (by rw[hz2];omega) (by omega);rw[hz1,Int.toNat_natCast] at h;exact h
 ·have h:=World.ownsRow_lit (base:=w.heap.size) (e:=96) (size:=1) w (madeCells #[Value.slice none 0 0] (n*1)) n (Nat.le_refl _) (by unfold maxLen;omega) (size_madeCells _ _);unfold LvRow;rw[List.length_replicate,← lv_zeros];exact h
theorem cell_other {W:World}{p q:Addr}{u:Value}(h:q.block≠p.block) : (W.setCell p u).cell? q=W.cell? q:=by
 unfold World.cell?;rw[heap_setCell_other W p q.block u h]
theorem cell_alloc {W:World}{q:Addr}{o:Obj}(h:q.block<W.heap.size) : (W.alloc o).cell? q=W.cell? q:=((Below.refl W.heap.size W).alloc (Nat.le_refl _) o).cell h
structure RdR (base g n:Nat)(M:List LvS)(wr:World) : Prop where
 row:LvRow wr base (.slice (some ⟨g,0,none⟩) n n) M
 own:LvOwn wr base M
 apart:LvApart M
 len:M.length=n
 gb:base≤g
section
variable {base g n : Nat} {M : List LvS} {wr : World}
theorem RdR.drew (h:RdR base g n M wr) : RdR base g n M wr.drew:=⟨h.row,h.own,h.apart,h.len,h.gb⟩
theorem RdR.alloc (h:RdR base g n M wr)(o:Obj) : RdR base g n M (wr.alloc o):=⟨LvRow.alloc h.row o,fun x hx=>IRow.below (h.own x hx) ((Below.refl wr.heap.size wr).alloc (Nat.le_refl _) o) (Nat.le_refl _),h.apart,h.len,h.gb⟩
theorem RdR.ne (h:RdR base g n M wr){i c gi:Nat}{l:List Int}(hx:M[i]? = some ⟨.slice (some ⟨gi,0,none⟩) c c,l⟩) : g≠gi:=fun e=>own_own_ne h.row (h.own _ (List.mem_of_getElem? hx)) lv_ne gi rfl (by rw[e];rfl)
theorem RdR.start {w:World}{Z:Array Value}(n:Nat)(h:LvRow (w.alloc (.cells Z 96)) w.heap.size (.slice (some ⟨w.heap.size,0,none⟩) n n) (List.replicate n lvNil)) : RdR w.heap.size w.heap.size n (List.replicate n lvNil) (w.alloc (.cells Z 96)) :=
 ⟨h,fun x hx=>by rw[List.eq_of_mem_replicate hx];exact IRow.nil _ _,fun i j x y hx hy hij g hg=>by
  rw[List.eq_of_mem_replicate (List.mem_of_getElem? hx)] at hg;exact(by cases hg),List.length_replicate,Nat.le_refl _⟩
theorem RdR.far (h:RdR base g n M wr){b i:Nat}(hb:b<base)(u:Value) : RdR base g n M (wr.setCell ⟨b,i,none⟩ u) :=
 ⟨own_far h.row (fun e=>by have:=LvRow.block h.row b e;omega) u,fun x hx=>own_far (h.own x hx) (fun e=>by have:=(IRow.block (h.own x hx) b e).1;omega) u,h.apart,h.len,h.gb⟩
theorem RdR.at_ (h:RdR base g n M wr){i:Nat}{x:LvS}(hx:M[i]? = some x) : wr.cell? ⟨g,i,none⟩=some x.v∧wr.frozen? ⟨g,i,none⟩=false:=LvRow.cell h.row h.len.symm hx
theorem RdR.lay (h:RdR base g n M wr){i c:Nat}{Z:Array Value}(hbw:base≤wr.heap.size)
  (hr:IRow (wr.alloc (.cells Z 3)) wr.heap.size (.slice (some ⟨wr.heap.size,0,none⟩) c c) (List.replicate c 0)) :
  RdR base g n (M.set i ⟨.slice (some ⟨wr.heap.size,0,none⟩) c c,List.replicate c 0⟩) ((wr.alloc (.cells Z 3)).setCell ⟨g,i,none⟩ (.slice (some ⟨wr.heap.size,0,none⟩) c c)):=by
 have r1:=LvRow.alloc h.row (.cells Z 3);have r3:=LvRow.put r1 h.len.symm (i:=i) ⟨.slice (some ⟨wr.heap.size,0,none⟩) c c,List.replicate c 0⟩;refine⟨r3,fun y hy=>?_,h.apart.set fun q hq j y hj hy hq2=>?_,by rw[List.length_set];exact h.len,h.gb⟩
 ·rcases List.mem_or_eq_of_mem_set hy with hy | rfl
  ·exact IRow.far_l (IRow.below (h.own y hy) ((Below.refl wr.heap.size wr).alloc (Nat.le_refl _) _) (Nat.le_refl _)) r1
  ·exact IRow.far_l (IRow.down hr hbw) r1
 ·have b2:=(IRow.block (h.own y (List.mem_of_getElem? hy)) q hq2).2;have:wr.heap.size=q:=by simpa[Value.ownBlock] using hq
  omega
theorem RdR.put (h:RdR base g n M wr){i j c gi:Nat}{l:List Int}(hx:M[i]? = some ⟨.slice (some ⟨gi,0,none⟩) c c,l⟩)(hc:c=l.length)(y:Int) :
  RdR base g n (M.set i ⟨.slice (some ⟨gi,0,none⟩) c c,l.set j y⟩) (wr.setCell ⟨gi,j,none⟩ (.int .i64 y))∧base≤gi∧wr.frozen? ⟨gi,j,none⟩=false∧(j<c→∃ u,wr.cell? ⟨gi,j,none⟩=some u):=by
 subst hc;have hx0:=h.own _ (List.mem_of_getElem? hx);have hir:IRow wr base (.slice (some ⟨gi,0,none⟩) l.length l.length) l:=hx0;obtain⟨hg1,hg2⟩:=IRow.block hir gi rfl;have hst:=(hir.stored j (.int .i64 y)).1
 have hrow:IRow (wr.setCell ⟨gi,j,none⟩ (.int .i64 y)) base (.slice (some ⟨gi,0,none⟩) l.length l.length) (l.set j y):=by
  unfold IRow;rw[List.length_set,List.map_set];exact hst
 have hi:i<M.length:=(List.getElem?_eq_some_iff.1 hx).1;have hfar:LvRow (wr.setCell ⟨gi,j,none⟩ (.int .i64 y)) base (.slice (some ⟨g,0,none⟩) n n) M:=own_far h.row (own_own_ne h.row hir lv_ne gi rfl) _;refine⟨⟨?_,fun z hz=>?_,h.apart.set fun q hq k z hk hz hq2=>?_,by rw[List.length_set];exact h.len,h.gb⟩,hg1,hir.frozenAt j,fun hj=>⟨intV l[j],(hir.cellAt j (by omega)).trans (by rw[List.getElem?_map,List.getElem?_eq_getElem hj];rfl)⟩⟩
 ·have e:lvals (M.set i ⟨.slice (some ⟨gi,0,none⟩) l.length l.length,l.set j y⟩)=lvals M:=by
   unfold lvals;rw[List.map_set];apply List.ext_getElem?;intro k;rw[List.getElem?_set];split
   ·rename_i e;subst e;rw[if_pos (by rw[List.length_map];exact hi),List.getElem?_map,hx];rfl
   ·rfl
  unfold LvRow;rw[List.length_set,e];exact hfar
 ·obtain⟨k,hk⟩:=List.getElem?_of_mem hz;rw[List.getElem?_set] at hk;split at hk
  ·obtain rfl:=Option.some.inj hk;exact hrow
  ·rename_i hki;exact own_far (h.own z (List.mem_of_getElem? hk)) (fun e=>h.apart i k _ z hx hk hki gi rfl e) _
 ·exact h.apart i k _ z hx hz (fun e=>hk e.symm) q hq hq2
end
end Go.Proofs.YtokbfellcadkpaaGreat
namespace Go.Proofs.YtokbfellcadkpaaGreat
set_option maxRecDepth 100000
set_option linter.unusedVariables false
section
open Go.RowKit Go.Shelf
def MfReadEnd (w:World)(s:ByteArray)(e:Ending)(w':World) : Prop:=∃ (x0 x1:Int) (x2:Nat) (A:Option Addr) (n c:Nat) (R:LvL),e = .returned (manV x0 x1 x2 (.slice A n c))∧n=R.length∧LvsNew w' w.heap.size (.slice A n c) R∧Below w.heap.size w w'∧ReadsM s ⟨x0,x1,x2,R⟩∧x2<18446744073709551616∧R.flatten.length≤100000∧R.length≤300
def RdL (s:ByteArray)(n i p:Nat)(M:List LvS) : Prop:=i≤n∧∃ L:LvL,L.length=i∧lvl M=L++List.replicate (n-i) []∧MfAt s i p L∧∀ x∈L,x.length≤255
theorem RdL.start (s:ByteArray)(n:Nat) : RdL s n 0 21 (List.replicate n lvNil):=by
 refine⟨Nat.zero_le _,[],rfl, ?_,mf_start s,fun x hx=>(by cases hx)⟩;unfold lvl;rw[List.map_replicate];rfl
theorem RdL.next {s:ByteArray}{n i p:Nat}{M:List LvS}{v:Value}(h:RdL s n i p M)(hi:i<n)(hc:num s p 1≤255) : RdL s n (i+1) (p+1+4*num s p 1) (M.set i ⟨v,lvAt s (p+1) (num s p 1)⟩):=by
 obtain⟨h0,L,h1,h2,h3,h4⟩:=h;refine⟨hi,L++[lvAt s (p+1) (num s p 1)],by rw[List.length_append,h1];rfl, ?_,mf_step h3 (Nat.le_refl _) (Or.inl rfl),fun x hx=>?_⟩
 ·rw[lvl_set,h2,List.set_append_right _ _ (by omega),h1,Nat.sub_self,show n-i=(n-(i+1))+1 by omega,List.replicate_succ,List.set_cons_zero,List.append_assoc];rfl
 ·rcases List.mem_append.1 hx with hx | hx
  ·exact h4 x hx
  ·rw[List.mem_singleton.1 hx,lvAt_length];exact hc
theorem flat_bound : ∀ (L:LvL),(∀ x∈L,x.length≤255)→L.flatten.length≤255*L.length
 | [],_=>Nat.zero_le _
 | x::L,h=>by
   have h1:=flat_bound L (fun y hy=>h y (List.mem_cons_of_mem _ hy));have h2:=h x List.mem_cons_self;rw[List.flatten_cons,List.length_append,List.length_cons];omega
theorem RdL.done {s:ByteArray}{p:Nat}{M:List LvS}(hn:num s 20 1≤255)(h:RdL s (num s 20 1) (num s 20 1) p M) : ReadsM s ⟨(num s 4 4:Nat),(num s 8 4:Nat),num s 12 8,lvl M⟩∧(lvl M).length=num s 20 1∧(lvl M).flatten.length≤100000:=by
 obtain⟨h0,L,h1,h2,h3,h4⟩:=h;rw[Nat.sub_self] at h2;have e:lvl M=L:=by rw[h2];simp
 rw[e];have:=flat_bound L h4;exact⟨mf_end h3 (Nat.le_refl _) (Or.inl rfl),h1,by rw[h1] at this;omega⟩
def lvTo (s:ByteArray)(p c k:Nat) : List Int:=lvAt s p k++List.replicate (c-k) 0
theorem lvTo_length (s:ByteArray)(p:Nat){c k:Nat}(h:k≤c) : (lvTo s p c k).length=c:=by unfold lvTo;rw[List.length_append,lvAt_length,List.length_replicate];omega
theorem lvTo_zero (s:ByteArray)(p c:Nat) : lvTo s p c 0=List.replicate c 0:=by unfold lvTo;rw[lvAt_zero,List.nil_append,Nat.sub_zero]
theorem lvTo_full (s:ByteArray)(p c:Nat) : lvTo s p c c=lvAt s p c:=by unfold lvTo;rw[Nat.sub_self];simp
theorem lvTo_set (s:ByteArray)(p:Nat){c k:Nat}(h:k<c) : (lvTo s p c k).set k ((num s (p+4*k) 4:Nat):Int)=lvTo s p c (k+1):=by
 unfold lvTo;rw[List.set_append_right _ _ (by rw[lvAt_length];exact Nat.le_refl _),lvAt_length,Nat.sub_self,show c-k=(c-(k+1))+1 by omega,List.replicate_succ,List.set_cons_zero,lvAt_succ,List.append_assoc];rfl
theorem num_four (s:ByteArray)(p:Nat) : num s p 4<4294967296:=num_lt s p 4 4 (by decide) (by decide)
theorem num_one (s:ByteArray)(p:Nat) : num s p 1≤255:=by have:=num_lt s p 1 1 (by decide) (by decide);omega
theorem num_eight (s:ByteArray)(p:Nat) : num s p 8<18446744073709551616:=num_lt s p 8 8 (by decide) (by decide)
set_option maxHeartbeats 1000000 in
theorem mread_any (s:ByteArray)(w:World)(hs:s.size≤1100000) : Calls Tryz.prog 192 #[.string s] w (MfReadEnd w s):=by
 have H0:=Lib.hid (rd_first s w hs);have HT4:=Lib.hid (fun p x0 x1 x2 v wr (h:RdB w s p x0 x1 x2 v wr)=>h.take4 hs);have HT8:=Lib.hid (fun p x0 x1 x2 v wr (h:RdB w s p x0 x1 x2 v wr)=>h.take8 hs);have HT1:=Lib.hid (fun p x0 x1 x2 v wr (h:RdB w s p x0 x1 x2 v wr)=>h.take1 hs)
 have HEND:Hid (∀ A n c M p W B,w.heap.size≤B→n=num s 20 1→LvRow W B (.slice A n c) M→LvOwn W B M→Below w.heap.size w W→RdL s n n p M→MfReadEnd w s (.returned (manV (num s 4 4:Nat) (num s 8 4:Nat) (num s 12 8) (.slice A n c))) W):=Lib.hid fun A n c M p W B hB e h1 h2 h3 h4=>by
  subst e;obtain⟨r1,r2,r3⟩:=RdL.done (num_one s 20) h4;exact⟨_,_,_,A,_,c,lvl M,rfl,r2.symm,⟨M,LvRow.down h1 hB,h2.down hB,rfl⟩,h3,r1,num_eight s 12,r3,by rw[r2];have:=num_one s 20;omega⟩
 have b0:=num_four s 4;have b1:=num_four s 8;have b3:=num_one s 20;have q0:IntKind.i64.wrap ((num s 4 4:Nat):Int)=((num s 4 4:Nat):Int):=IntWalk.i64_in _ ⟨by omega,by omega⟩;have q1:IntKind.i64.wrap ((num s 8 4:Nat):Int)=((num s 8 4:Nat):Int):=IntWalk.i64_in _ ⟨by omega,by omega⟩;have HL0:=Lib.hid (RdL.start s (num s 20 1));obtain⟨Z,hZ,hZr⟩:=lvs_make (num s 20 1) (by omega);have HZR:=Lib.hid hZr;obtain⟨y0,hy0⟩:∃ y,num s 4 4=y:=⟨_,rfl⟩
 obtain⟨y1,hy1⟩:∃ y,num s 8 4=y:=⟨_,rfl⟩
 obtain⟨y2,hy2⟩:∃ y,num s 12 8=y:=⟨_,rfl⟩
 obtain⟨n,hn⟩:∃ y,num s 20 1=y:=⟨_,rfl⟩
 have HY0:=Lib.hid hy0;have HY1:=Lib.hid hy1;have HY2:=Lib.hid hy2;have HN:=Lib.hid hn;rw[hn] at HL0 HZR b3;rw[hn] at hZ;rw[hy0] at b0 q0;rw[hy1] at b1 q1;clear hs hZr hy0 hy1 hy2 hn;go_enter Tryz.func192,Tryz.ntmps192;go_wp2_with fail;refine H0.out.mono ?_;rintro e w3 ⟨rfl,hz3,hb⟩;have T2:=HT4.out _ _ _ _ _ _ hb;rw[HY0.out] at T2;have T:=Lib.hid T2;clear hb T2 H0;go_wp2_with fail;refine T.out.mono ?_;rintro e w4 ⟨rfl,hb,-⟩;obtain⟨k0,-,-,-,kf,-⟩:=hb.cells;have kf0:=kf 0;have T2:=HT4.out _ _ _ _ _ _ (hb.set0 (y0:Nat));rw[HY1.out] at T2;have T:=Lib.hid T2;clear hb T2 kf;go_wp2_with fail;refine T.out.mono ?_;rintro e w5 ⟨rfl,hb,-⟩;clear k0 kf0;obtain⟨-,k1,-,-,kf,-⟩:=hb.cells;have kf0:=kf 1;have T2:=HT8.out _ _ _ _ _ _ (hb.set1 (y1:Nat));rw[HY2.out] at T2;have T:=Lib.hid T2;clear hb T2 kf;go_wp2_with fail;refine T.out.mono ?_;rintro e w6 ⟨rfl,hb,-⟩;clear k1 kf0;obtain⟨-,-,k2,-,kf,-⟩:=hb.cells;have kf0:=kf 2;have T2:=HT1.out _ _ _ _ _ _ (hb.set2 y2);rw[HN.out] at T2;have T:=Lib.hid T2;clear hb T2 kf;go_wp2_with fail;refine T.out.mono ?_;rintro e w7 ⟨rfl,hb,-⟩;clear k2 kf0 T;obtain⟨-,-,-,j3,jf,-⟩:=(hb.alloc (.cells Z 96)).cells;have jf0:=jf 3;obtain⟨-,-,-,k3,kf,hg7⟩:=hb.cells;have kf0:=kf 3;have HZ7:=(RdR.start n (HZR.out w7)).far (b:=w.heap.size+2) (i:=3) hg7 (.slice (some ⟨w7.heap.size,0,none⟩) n n);have HB7:=(hb.alloc (.cells Z 96)).set3 (.slice (some ⟨w7.heap.size,0,none⟩) n n);obtain⟨g7,hg⟩:∃ g7,g7=w7.heap.size:=⟨_,rfl⟩
 obtain⟨w8,hw8⟩:∃ w8,w8=(w7.alloc (.cells Z 96)).setCell ⟨w.heap.size+2,3,none⟩ (.slice (some ⟨w7.heap.size,0,none⟩) n n):=⟨_,rfl⟩
 have HW8:=Lib.hid hw8;have HG7:=Lib.hid hg;rw[← hw8,← hg] at HZ7 HB7;rw[← hg] at hg7;have HRR:=Lib.hid HZ7;have HBB:=Lib.hid HB7;clear jf hb kf HZ7 HB7 hw8 hg HZR hz3;go_upto_region 8 with fail;rw[← HW8.out,← HG7.out];clear HW8 HG7 k3 kf0 j3 jf0;obtain⟨-,-,-,k3,-,-⟩:=HBB.out.cells;have HSA:=Lib.hid (fun(W:World) (o:Obj) (h:w.heap.size+2<W.heap.size∧W.cell? ⟨w.heap.size+2,3,none⟩=some (.slice (some ⟨g7,0,none⟩) n n))=>(show w.heap.size+2<(W.alloc o).heap.size∧(W.alloc o).cell? ⟨w.heap.size+2,3,none⟩=some (.slice (some ⟨g7,0,none⟩) n n) from⟨by rw[World.size_alloc];omega,(cell_alloc h.1).trans h.2⟩));have HSS:=Lib.hid (fun(W:World) (g i:Nat) (u:Value) (hg:w.heap.size+2≠g) (h:w.heap.size+2<W.heap.size∧W.cell? ⟨w.heap.size+2,3,none⟩=some (.slice (some ⟨g7,0,none⟩) n n))=>(show w.heap.size+2<(W.setCell ⟨g,i,none⟩ u).heap.size∧(W.setCell ⟨g,i,none⟩ u).cell? ⟨w.heap.size+2,3,none⟩=some (.slice (some ⟨g7,0,none⟩) n n) from⟨by rw[World.size_setCell];exact h.1,(cell_other hg).trans h.2⟩));go_wp2;go_loopg [24] n (fun g i wr=>∃ (j p:Nat) (M:List LvS),j+g=n∧i = .int .i64 j∧RdB w s p (y0:Nat) (y1:Nat) y2 (.slice (some ⟨g7,0,none⟩) n n) wr∧RdR g7 g7 n M wr∧RdL s n j p M)
 case atStart=>exact⟨0,21,_,by omega,rfl,HBB.out,HRR.out,HL0.out⟩
 case round =>
  obtain⟨j,p,M,hjg,rfl,hB,hR,hL⟩:=hrel;clear HBB HRR HL0 k3;have HB:=Lib.hid hB;have HR:=Lib.hid hR;have HL:=Lib.hid hL;clear hB hR hL;obtain⟨wo,rfl⟩:∃ wo,wo=wr:=⟨_,rfl⟩
  cases gk with
  | zero =>
    obtain rfl:j=n:=by omega
    have l1:¬ (j:Int)<(j:Int):=by omega
    obtain⟨k0,k1,k2,k3,-,-⟩:=HB.out.cells;have d0:=HB.out.b2.cell 0;have d1:=HB.out.b2.cell 1;have d2:=HB.out.b2.cell 2;have d3:=HB.out.b2.cell 3;have f0:=HB.out.b2.frozen 0;have f1:=HB.out.b2.frozen 1;have f2:=HB.out.b2.frozen 2;have f3:=HB.out.b2.frozen 3;simp only[List.getElem?_toArray] at d0 d1 d2 d3;obtain⟨wf,hwf⟩:∃ wf,wf=((((wo.setCell ⟨w.heap.size,0,none⟩ (.int .i64 (y0:Nat))).setCell ⟨w.heap.size,1,none⟩ (.int .i64 (y1:Nat))).setCell ⟨w.heap.size,2,none⟩ (.int .u64 (y2:Nat))).setCell ⟨w.heap.size,3,none⟩ (.slice (some ⟨g7,0,none⟩) j j)):=⟨_,rfl⟩
    have hD:=(((HB.out.b2.put 0 (.int .i64 (y0:Nat))).put 1 (.int .i64 (y1:Nat))).put 2 (.int .u64 (y2:Nat))).put 3 (.slice (some ⟨g7,0,none⟩) j j);have hBf:=(((HB.out.bel.setCell (p:=⟨w.heap.size,0,none⟩) (Nat.le_refl _) (.int .i64 (y0:Nat))).setCell (p:=⟨w.heap.size,1,none⟩) (Nat.le_refl _) (.int .i64 (y1:Nat))).setCell (p:=⟨w.heap.size,2,none⟩) (Nat.le_refl _) (.int .u64 (y2:Nat))).setCell (p:=⟨w.heap.size,3,none⟩) (Nat.le_refl _) (.slice (some ⟨g7,0,none⟩) j j);have hRf:=(((HR.out.far (b:=w.heap.size) (i:=0) (by omega) (.int .i64 (y0:Nat))).far (b:=w.heap.size) (i:=1) (by omega) (.int .i64 (y1:Nat))).far (b:=w.heap.size) (i:=2) (by omega) (.int .u64 (y2:Nat))).far (b:=w.heap.size) (i:=3) (by omega) (.slice (some ⟨g7,0,none⟩) j j);rw[← hwf] at hD hBf hRf;have e0:wf.cell? ⟨w.heap.size,0,none⟩=some (.int .i64 (y0:Nat)):=hD.cell 0;have e1:wf.cell? ⟨w.heap.size,1,none⟩=some (.int .i64 (y1:Nat)):=hD.cell 1;have e2:wf.cell? ⟨w.heap.size,2,none⟩=some (.int .u64 (y2:Nat)):=hD.cell 2;have e3:wf.cell? ⟨w.heap.size,3,none⟩=some (.slice (some ⟨g7,0,none⟩) j j):=hD.cell 3;have HR9:=HEND.out _ _ _ _ _ _ _ (by omega) HN.out.symm hRf.row hRf.own hBf HL.out;rw[HY0.out,HY1.out,HY2.out] at HR9;have HR10:=Lib.hid HR9;have HWF:=Lib.hid hwf;clear HR9 hwf hD hBf hRf;go_wp2;rw[← HWF.out];exact bodyPost_ret (v:=manV (y0:Nat) (y1:Nat) y2 (.slice (some ⟨g7,0,none⟩) j j)) (by simp[results,Tryz.results192,go_sem,e0,e1,e2,e3];rfl) rfl HR10.out
  | succ gi0 =>
    have hjn:j<n:=by omega
    have l1:(j:Int)<(n:Int):=by omega
    obtain⟨c,hc⟩:∃ c,num s p 1=c:=⟨_,rfl⟩
    have hc255:c≤255:=by have:=num_one s p;omega
    have HC:=Lib.hid hc;obtain⟨y,hy⟩:∃ y,M[j]? = some y:=⟨_,List.getElem?_eq_getElem (by rw[HR.out.len];exact hjn)⟩
    obtain⟨Zc,hZc,hZr⟩:=ints_make c (by omega);have HZR:=Lib.hid hZr;have HY:=Lib.hid hy;obtain⟨-,-,-,k3,-,kl⟩:=HB.out.cells;have hs0:w.heap.size+2<wo.drew.heap.size∧wo.drew.cell? ⟨w.heap.size+2,3,none⟩=some (.slice (some ⟨g7,0,none⟩) n n):=⟨kl,k3⟩
    have T2:=HT1.out _ _ _ _ _ _ HB.out.drew;rw[hc] at T2;have K:=Lib.hid (T2.mono fun e w' hr=>(⟨hr.1,⟨hr.2.1.cells.2.2.2.2.2,hr.2.1.cells.2.2.2.1⟩,hr.2.1,by rw[hr.2.2];exact HR.out.drew.far (b:=w.heap.size+1) (i:=0) (by omega) _⟩:e=_∧(w.heap.size+2<w'.heap.size∧w'.cell? ⟨w.heap.size+2,3,none⟩=some (.slice (some ⟨g7,0,none⟩) n n))∧RdB w s (p+1) (y0:Nat) (y1:Nat) y2 (.slice (some ⟨g7,0,none⟩) n n) w'∧RdR g7 g7 n M w'));have hne7:w.heap.size+2≠g7:=by omega
    clear T2 hc hy hZr;go_upto_region 11 with fail
    go_region_held3 (fun W=>w.heap.size+2<W.heap.size∧W.cell? ⟨w.heap.size+2,3,none⟩=some (.slice (some ⟨g7,0,none⟩) n n))
     (first | (with_reducible assumption) | (with_reducible exact HSA.out _ _ (by with_reducible assumption)) | (with_reducible exact HSS.out _ _ _ _ hne7 (by with_reducible assumption)) | (with_reducible exact HSS.out _ _ _ _ hne7 (HSA.out _ _ (by with_reducible assumption))) | fail)
     (first
     | (go_at_call 223;((with_reducible refine K.out.mono ?_);rintro e w9 ⟨rfl,hS9,hB9,hR9⟩;obtain⟨fa,fb⟩:=(hR9.alloc (.cells Zc 3)).at_ HY.out;obtain⟨fc,fd⟩:=hR9.at_ HY.out))
     | fail)
    have hBd:=(hB9.alloc (.cells Zc 3)).set (i:=j) (show w.heap.size+3≤g7 by omega) (.slice (some ⟨w9.heap.size,0,none⟩) c c);have hRd:=hR9.lay (i:=j) (c:=c) (Z:=Zc) (by have:=(World.ownsRow.lt hR9.row g7 rfl).2;omega) (HZR.out w9);obtain⟨gi,hgi⟩:∃ gi,gi=w9.heap.size:=⟨_,rfl⟩
    obtain⟨wd,hwd⟩:∃ wd,wd=((w9.alloc (.cells Zc 3)).setCell ⟨g7,j,none⟩ (.slice (some ⟨w9.heap.size,0,none⟩) c c)):=⟨_,rfl⟩
    rw[← hwd,← hgi,← lvTo_zero s (p+1) c] at hRd;rw[← hwd] at hBd;have HBD:=Lib.hid hBd;have HRD:=Lib.hid hRd;have HWD:=Lib.hid hwd;have HGI:=Lib.hid hgi;clear hBd hRd hwd hgi K;rw[← HWD.out,← HGI.out];clear HWD HGI hS9 hB9 hR9 fa fb fc fd;have HMJ:=Lib.hid (fun(l:List Int)=>(show(M.set j ⟨.slice (some ⟨gi,0,none⟩) c c,l⟩)[j]? = some ⟨.slice (some ⟨gi,0,none⟩) c c,l⟩ from by rw[List.getElem?_set,if_pos rfl,if_pos (List.getElem?_eq_some_iff.1 HY.out).1]));have HMS:=Lib.hid (fun(l l':List Int)=>(show(M.set j ⟨.slice (some ⟨gi,0,none⟩) c c,l⟩).set j ⟨.slice (some ⟨gi,0,none⟩) c c,l'⟩=M.set j ⟨.slice (some ⟨gi,0,none⟩) c c,l'⟩ from List.set_set ..));have hnegi:=HRD.out.ne (HMJ.out _);obtain⟨-,-,-,k3',-,kl'⟩:=HBD.out.cells;obtain⟨kj,-⟩:=HRD.out.at_ (HMJ.out _);simp only at kj;have HS2:=Lib.hid (fun(W:World) (i:Nat) (u:Value) (hg:w.heap.size+2≠gi) (h:w.heap.size+2<W.heap.size∧W.cell? ⟨w.heap.size+2,3,none⟩=some (.slice (some ⟨g7,0,none⟩) n n)∧W.cell? ⟨g7,j,none⟩=some (.slice (some ⟨gi,0,none⟩) c c))=>(show w.heap.size+2<(W.setCell ⟨gi,i,none⟩ u).heap.size∧(W.setCell ⟨gi,i,none⟩ u).cell? ⟨w.heap.size+2,3,none⟩=some (.slice (some ⟨g7,0,none⟩) n n)∧(W.setCell ⟨gi,i,none⟩ u).cell? ⟨g7,j,none⟩=some (.slice (some ⟨gi,0,none⟩) c c) from⟨by rw[World.size_setCell];exact h.1,(cell_other hg).trans h.2.1,(cell_other hnegi).trans h.2.2⟩))
    have HK4:=Lib.hid (fun(k:Nat) (W:World) (hb:RdB w s (p+1+4*k) (y0:Nat) (y1:Nat) y2 (.slice (some ⟨g7,0,none⟩) n n) W) (hr:RdR g7 g7 n (M.set j ⟨.slice (some ⟨gi,0,none⟩) c c,lvTo s (p+1) c k⟩) W)=>(HT4.out _ _ _ _ _ _ hb.drew).mono fun e w' h=>(show e = .returned (.int .u64 (num s (p+1+4*k) 4:Nat))∧(w.heap.size+2<w'.heap.size∧w'.cell? ⟨w.heap.size+2,3,none⟩=some (.slice (some ⟨g7,0,none⟩) n n)∧w'.cell? ⟨g7,j,none⟩=some (.slice (some ⟨gi,0,none⟩) c c))∧RdB w s (p+1+4*k+4) (y0:Nat) (y1:Nat) y2 (.slice (some ⟨g7,0,none⟩) n n) w'∧RdR g7 g7 n (M.set j ⟨.slice (some ⟨gi,0,none⟩) c c,lvTo s (p+1) c k⟩) w' from by
     have hr':RdR g7 g7 n (M.set j ⟨.slice (some ⟨gi,0,none⟩) c c,lvTo s (p+1) c k⟩) w':=by rw[h.2.2];exact hr.drew.far (b:=w.heap.size+1) (i:=0) (by omega) _
     exact⟨h.1,⟨h.2.1.cells.2.2.2.2.2,h.2.1.cells.2.2.2.1,(hr'.at_ (HMJ.out _)).1⟩,h.2.1,hr'⟩))
    go_wp2;go_loopg [39] c (fun g i wx=>∃ (k:Nat),k+g=c∧i = .int .i64 k∧RdB w s (p+1+4*k) (y0:Nat) (y1:Nat) y2 (.slice (some ⟨g7,0,none⟩) n n) wx∧RdR g7 g7 n (M.set j ⟨.slice (some ⟨gi,0,none⟩) c c,lvTo s (p+1) c k⟩) wx)
    case atStart=>exact⟨0,by omega,rfl,HBD.out,HRD.out⟩
    case round =>
     obtain⟨k,hkg,rfl,hB,hR⟩:=hrel;clear HBD HRD k3' kl' kj;have HBK:=Lib.hid hB;have HRK:=Lib.hid hR;clear hB hR;cases gk with
     | zero =>
       obtain rfl:k=c:=by omega
       have l2:¬ (k:Int)<(k:Int):=by omega
       have HFB:=HBK.out;have HFR:=HRK.out;have HFL:=HL.out.next (v:=.slice (some ⟨gi,0,none⟩) k k) hjn (num_one s p);rw[HC.out] at HFL;rw[lvTo_full] at HFR;have H1:=Lib.hid HFB;have H2:=Lib.hid HFR;have H3:=Lib.hid HFL;clear HFB HFR HFL;go_wp2;go_roundg gi0
       case measure=>omega
       case rel=>exact⟨j+1,_,_,by omega,by go_num,H1.out,H2.out,H3.out⟩
     | succ gj =>
       have hkc:k<c:=by omega
       have l2:(k:Int)<(c:Int):=by omega
       obtain⟨-,-,-,k3',-,kl'⟩:=HBK.out.cells;obtain⟨kj,-⟩:=HRK.out.at_ (HMJ.out _);simp only at kj;have hs2:w.heap.size+2<wr.drew.heap.size∧wr.drew.cell? ⟨w.heap.size+2,3,none⟩=some (.slice (some ⟨g7,0,none⟩) n n)∧wr.drew.cell? ⟨g7,j,none⟩=some (.slice (some ⟨gi,0,none⟩) c c):=⟨kl',k3',kj⟩
       have K4:=HK4.out k wr HBK.out HRK.out;obtain⟨x,hx⟩:∃ x,num s (p+1+4*k) 4=x:=⟨_,rfl⟩
       have hx4:=num_four s (p+1+4*k);have hset:=lvTo_set s (p+1) hkc;rw[hx] at K4 hx4 hset;have HSET:=Lib.hid hset;have K:=Lib.hid K4;have qx:IntKind.i64.wrap ((x:Nat):Int)=((x:Nat):Int):=IntWalk.i64_in _ ⟨by omega,by omega⟩;have hgz:w.heap.size+2≠gi:=by have:=(HRK.out.put (j:=k) (HMJ.out _) (lvTo_length s (p+1) (by omega)).symm 0).2.1;omega
       clear K4 hx hset;go_upto_region 15 with fail
       go_region_held3 (fun W=>w.heap.size+2<W.heap.size∧W.cell? ⟨w.heap.size+2,3,none⟩=some (.slice (some ⟨g7,0,none⟩) n n)∧W.cell? ⟨g7,j,none⟩=some (.slice (some ⟨gi,0,none⟩) c c))
        (first | (with_reducible assumption) | (with_reducible exact HS2.out _ _ _ hgz (by with_reducible assumption)) | fail)
        (first
        | (go_at_call 223;((with_reducible refine K.out.mono ?_);rintro e w9 ⟨rfl,hS9,hB9,hR9⟩;obtain⟨hput,hgi7,ff,fex⟩:=hR9.put (j:=k) (HMJ.out _) (lvTo_length s (p+1) (by omega)).symm ((x:Nat):Int);obtain⟨xu,fc⟩:=fex hkc))
        | fail)
       rw[HMS.out,HSET.out] at hput;have hBn:=hB9.set (i:=k) (show w.heap.size+3≤gi by omega) (.int .i64 ((x:Nat):Int));rw[show p+1+4*k+4=p+1+4*(k+1) by omega] at hBn;have H1:=Lib.hid hBn;have H2:=Lib.hid hput;clear hBn hput hS9 hB9 hR9 K ff fc hs2;go_wp2;go_roundg gj
       case measure=>omega
       case rel=>exact⟨k+1,by omega,by go_num,H1.out,H2.out⟩
theorem sameM_no {n1 c1 n2 c2:Int}{d1 d2:Nat}{R1 R2:LvL}(h:¬ (n1=n2∧c1=c2∧d1=d2)) : sameM ⟨n1,c1,d1,R1⟩ ⟨n2,c2,d2,R2⟩=false:=decide_eq_false fun e=>h ⟨e.1,e.2.1,e.2.2.1⟩
theorem sameM_lv (n c:Int)(d:Nat)(R1 R2:LvL) : sameM ⟨n,c,d,R1⟩ ⟨n,c,d,R2⟩=decide (trimL R1=trimL R2):=by
 unfold sameM;congr 1;simp
set_option maxHeartbeats 1000000 in
theorem msamel_any (n1 c1:Int)(d1:Nat)(A1:Option Addr)(k1 p1:Nat)(R1:LvL)(n2 c2:Int)(d2:Nat)(A2:Option Addr)(k2 p2:Nat)(R2:LvL)(w:World)
  (h1:LvsHas w (.slice A1 k1 p1) R1) (h2:LvsHas w (.slice A2 k2 p2) R2) (e1:k1=R1.length) (e2:k2=R2.length) (l1:k1≤100000) (l2:k2≤100000) :
  Calls Tryz.prog 21 #[manV n1 c1 d1 (.slice A1 k1 p1),manV n2 c2 d2 (.slice A2 k2 p2)] w fun e w'=>e = .returned (.bool (sameM ⟨n1,c1,d1,R1⟩ ⟨n2,c2,d2,R2⟩))∧Below w.heap.size w w':=by
 have hb:Below w.heap.size w ((w.alloc (manO n1 c1 d1 (.slice A1 k1 p1))).alloc (manO n2 c2 d2 (.slice A2 k2 p2))):=((Below.refl _ _).alloc (Nat.le_refl _) _).alloc (by simp) _;obtain⟨W2,hW⟩:∃ W2,W2=(w.alloc (.cells #[.int .i64 n1,.int .i64 c1,.int .u64 (d1:Nat),.slice A1 k1 p1] 40)).alloc (.cells #[.int .i64 n2,.int .i64 c2,.int .u64 (d2:Nat),.slice A2 k2 p2] 40):=⟨_,rfl⟩
 have HW:=Lib.hid hW;have x1:LvsHas W2 (.slice A1 k1 p1) R1:=by rw[hW];exact h1.below hb (Nat.le_refl _)
 have x2:LvsHas W2 (.slice A2 k2 p2) R2:=by rw[hW];exact h2.below hb (Nat.le_refl _)
 have HBW:Hid (Below w.heap.size w W2):=Lib.hid (by rw[hW];exact hb);have f10:W2.cell? ⟨w.heap.size,0,none⟩=some (.int .i64 n1):=by rw[hW];exact mcell (B:=w.heap.size+1) ((Below.refl _ _).alloc (by simp) _) (show w.heap.size<w.heap.size+1 by omega) (World.cell?_alloc_at _ _ _ _ rfl)
 have F10:=Lib.hid f10;clear f10;have f11:W2.cell? ⟨w.heap.size,1,none⟩=some (.int .i64 c1):=by rw[hW];exact mcell (B:=w.heap.size+1) ((Below.refl _ _).alloc (by simp) _) (show w.heap.size<w.heap.size+1 by omega) (World.cell?_alloc_at _ _ _ _ rfl)
 have F11:=Lib.hid f11;clear f11;have f12:W2.cell? ⟨w.heap.size,2,none⟩=some (.int .u64 (d1:Nat)):=by rw[hW];exact mcell (B:=w.heap.size+1) ((Below.refl _ _).alloc (by simp) _) (show w.heap.size<w.heap.size+1 by omega) (World.cell?_alloc_at _ _ _ _ rfl)
 have F12:=Lib.hid f12;clear f12;have f13:W2.cell? ⟨w.heap.size,3,none⟩=some (.slice A1 k1 p1):=by rw[hW];exact mcell (B:=w.heap.size+1) ((Below.refl _ _).alloc (by simp) _) (show w.heap.size<w.heap.size+1 by omega) (World.cell?_alloc_at _ _ _ _ rfl)
 have F13:=Lib.hid f13;clear f13;have f20:W2.cell? ⟨w.heap.size+1,0,none⟩=some (.int .i64 n2):=by rw[hW,show w.heap.size+1=(w.alloc (.cells #[.int .i64 n1,.int .i64 c1,.int .u64 (d1:Nat),.slice A1 k1 p1] 40)).heap.size by simp];exact World.cell?_alloc_at _ _ _ _ rfl
 have F20:=Lib.hid f20;clear f20;have f21:W2.cell? ⟨w.heap.size+1,1,none⟩=some (.int .i64 c2):=by rw[hW,show w.heap.size+1=(w.alloc (.cells #[.int .i64 n1,.int .i64 c1,.int .u64 (d1:Nat),.slice A1 k1 p1] 40)).heap.size by simp];exact World.cell?_alloc_at _ _ _ _ rfl
 have F21:=Lib.hid f21;clear f21;have f22:W2.cell? ⟨w.heap.size+1,2,none⟩=some (.int .u64 (d2:Nat)):=by rw[hW,show w.heap.size+1=(w.alloc (.cells #[.int .i64 n1,.int .i64 c1,.int .u64 (d1:Nat),.slice A1 k1 p1] 40)).heap.size by simp];exact World.cell?_alloc_at _ _ _ _ rfl
 have F22:=Lib.hid f22;clear f22;have f23:W2.cell? ⟨w.heap.size+1,3,none⟩=some (.slice A2 k2 p2):=by rw[hW,show w.heap.size+1=(w.alloc (.cells #[.int .i64 n1,.int .i64 c1,.int .u64 (d1:Nat),.slice A1 k1 p1] 40)).heap.size by simp];exact World.cell?_alloc_at _ _ _ _ rfl
 have F23:=Lib.hid f23;clear f23;clear h1 h2 hb hW;unfold manV;by_cases hn:n1=n2
 case neg =>
  rw[sameM_no fun e=>hn e.1];have t0:(n1==n2)=false:=by simp[hn]
  clear x1 x2 hn e1 e2;go_enter Tryz.func21,Tryz.ntmps21;go_wp2;rw[← HW.out];have f10:=F10.out;have f11:=F11.out;have f12:=F12.out;have f13:=F13.out;have f20:=F20.out;have f21:=F21.out;have f22:=F22.out;have f23:=F23.out;clear F10 F11 F12 F13 F20 F21 F22 F23 HW;go_quiet (fail);go_wp2;go_ret;exact⟨rfl,by exact below_drewN HBW.out _⟩
 subst hn;by_cases hc:c1=c2
 case neg =>
  rw[sameM_no fun e=>hc e.2.1];have t0:(c1==c2)=false:=by simp[hc]
  clear x1 x2 hc e1 e2;go_enter Tryz.func21,Tryz.ntmps21;go_wp2;rw[← HW.out];have f10:=F10.out;have f11:=F11.out;have f12:=F12.out;have f13:=F13.out;have f20:=F20.out;have f21:=F21.out;have f22:=F22.out;have f23:=F23.out;clear F10 F11 F12 F13 F20 F21 F22 F23 HW;go_quiet (fail);go_wp2;go_ret;exact⟨rfl,by exact below_drewN HBW.out _⟩
 subst hc;by_cases hd:d1=d2
 case neg =>
  rw[sameM_no fun e=>hd e.2.2];have t0:((d1:Int)==(d2:Int))=false:=by simp;omega
  clear x1 x2 hd e1 e2;go_enter Tryz.func21,Tryz.ntmps21;go_wp2;rw[← HW.out];have f10:=F10.out;have f11:=F11.out;have f12:=F12.out;have f13:=F13.out;have f20:=F20.out;have f21:=F21.out;have f22:=F22.out;have f23:=F23.out;clear F10 F11 F12 F13 F20 F21 F22 F23 HW;go_quiet (fail);go_wp2;go_ret;exact⟨rfl,by exact below_drewN HBW.out _⟩
 subst hd;rw[sameM_lv];have t0:(n1==n1)=true:=by simp
 have t1:(c1==c1)=true:=by simp
 have t2:((d1:Int)==(d1:Int))=true:=by simp
 obtain⟨A3,c3,HT1⟩:=mltrim_all A1 k1 p1 R1 e1 l1;obtain⟨A4,c4,HT2⟩:=mltrim_all A2 k2 p2 R2 e2 l2;have HQ1:=Lib.hid (fun q=>(HT1 (W2.drewN q) x1).1);have HQ2:=Lib.hid (fun q=>(HT2 (W2.drewN q) x2).1);have HQ3:=Lib.hid (fun q=>lsame_any (.slice A3 (trimL R1).length c3) (.slice A4 (trimL R2).length c4) (trimL R1) (trimL R2) (W2.drewN q) ((HT1 W2 x1).2) ((HT2 W2 x2).2));unfold MTrimEnd at HQ1 HQ2;unfold LIntsSame at HQ3;clear HT1 HT2 x1 x2 e1 e2 l1 l2;generalize (trimL R1).length=t1 at *;generalize (trimL R2).length=t2 at *;generalize decide (trimL R1=trimL R2)=qq at *;go_enter Tryz.func21,Tryz.ntmps21;go_wp2;rw[← HW.out];have f10:=F10.out;have f11:=F11.out;have f12:=F12.out;have f13:=F13.out;have f20:=F20.out;have f21:=F21.out;have f22:=F22.out;have f23:=F23.out;clear F10 F11 F12 F13 F20 F21 F22 F23 HW;go_quiet (first | (go_at_call 78;(with_reducible exact Calls.quiet_of_same (HQ1.out _))) | (go_at_call 78;(with_reducible exact Calls.quiet_of_same (HQ2.out _))) | (go_at_call 77;exact Calls.quiet_of (HQ3.out _)));go_wp2;go_ret;exact⟨rfl,by exact below_drewN HBW.out _⟩
end
end Go.Proofs.YtokbfellcadkpaaGreat
