/- ZfEventsTwo, ZfEventsRows, ZfEventsAllRef, ZfBatCheckRef, ZfBatCheckOwn, ZfBatGetRef, ZfBatGetOwn -/
import Derived.Test.YtokbfellcadkpaaGreatPf04
import Derived.Deep.RegionHeld3
import Derived.Test.YtokbfellcadkpaaGreatPf06
import Derived.Deep.DeepCutAuto
import Derived.Deep.AppendLies
import Derived.Test.YtokbfellcadkpaaGreatPf03
import Derived.Laws.Bits64
import Derived.WalkMore
import Derived.Deep.RegionHeldLaw
namespace Go.Proofs.YtokbfellcadkpaaGreat
set_option maxRecDepth 100000
set_option linter.unusedVariables false
section
open Go.RowKit
def Blk3 (w:World)(g:Nat)(T:TypeId)(x y z:Value) : Prop:=w.heap[g]? = some (.cells #[x,y,z] T (0,0))
theorem Blk3.new (w:World)(T:TypeId)(x y z:Value) : Blk3 (w.alloc (.cells #[x,y,z] T (0,0))) w.heap.size T x y z:=by
 show(w.heap.push _)[w.heap.size]? = _;simp
theorem Blk3.lt {w:World}{g:Nat}{T:TypeId}{x y z:Value}(h:Blk3 w g T x y z) : g<w.heap.size:=by
 obtain⟨hlt,_⟩:=Array.getElem?_eq_some_iff.1 h;exact hlt
theorem Blk3.below {w w':World}{g:Nat}{T:TypeId}{x y z:Value}(h:Blk3 w g T x y z)(hb:Below w.heap.size w w') : Blk3 w' g T x y z:=(hb.block g h.lt).trans h
theorem Blk3.facts {w:World}{g:Nat}{T:TypeId}{x y z:Value}(h:Blk3 w g T x y z) : w.cell? ⟨g,0,none⟩=some x∧w.cell? ⟨g,1,none⟩=some y∧w.cell? ⟨g,2,none⟩=some z∧w.frozen? ⟨g,0,none⟩=false∧w.frozen? ⟨g,1,none⟩=false∧w.frozen? ⟨g,2,none⟩=false∧g<w.heap.size:=by
 refine⟨?_, ?_, ?_, ?_, ?_, ?_,h.lt⟩<;>unfold Blk3 at h<;>simp[World.cell?,World.frozen?,h]
def evCells (x:RawS) : List Value:=[.string x.t,.string x.d,.float .f64 x.b]
def EvsIn (w:World)(v:Value)(l:List RawS) : Prop :=
 (l=[]∧∃ a c,v = .slice a 0 c)∨(0<l.length∧∃ b off cap,v = .slice (some ⟨b,off,none⟩) l.length cap∧l.length≤cap∧b<w.heap.size ∧
  ∀ i x,l[i]? = some x→w.cell? ⟨b,off+i*3,none⟩=some (.string x.t)∧w.cell? ⟨b,off+i*3+1,none⟩=some (.string x.d)∧w.cell? ⟨b,off+i*3+2,none⟩=some (.float .f64 x.b))
theorem EvsIn.below {w w':World}{v:Value}{l:List RawS}{B:Nat}(h:EvsIn w v l)(hb:Below B w w')(hB:w.heap.size≤B) : EvsIn w' v l:=by
 rcases h with h | ⟨h0,b,off,cap,hv,hl,hlt,hc⟩
 ·exact Or.inl h
 ·exact Or.inr ⟨h0,b,off,cap,hv,hl,Nat.lt_of_lt_of_le hlt hb.size,fun i x hx=>by
   obtain⟨c0,c1,c2⟩:=hc i x hx;exact⟨(hb.cell (Nat.lt_of_lt_of_le hlt hB)).trans c0,(hb.cell (Nat.lt_of_lt_of_le hlt hB)).trans c1,(hb.cell (Nat.lt_of_lt_of_le hlt hB)).trans c2⟩⟩
theorem flat_at : ∀ (l:List RawS) (i:Nat) (x:RawS),l[i]? = some x→∀ j,j<3→(l.flatMap evCells)[i*3+j]? = (evCells x)[j]?
 | [],i,x,h=>by simp at h
 | y::l,0,x,h=>by
   intro j hj;obtain rfl:y=x:=by simpa using h
   rw[List.flatMap_cons,Nat.zero_mul,Nat.zero_add,List.getElem?_append_left (by exact hj)]
 | y::l,i+1,x,h=>by
   intro j hj;have h':l[i]? = some x:=by simpa using h
   have e:(i+1)*3+j=3+(i*3+j):=by omega
   rw[List.flatMap_cons,e,List.getElem?_append_right (by show 3≤_;omega)];show(l.flatMap evCells)[3+(i*3+j)-3]? = _;rw[Nat.add_sub_cancel_left];exact flat_at l i x h' j hj
theorem EvsIn.of_owns {w:World}{base:Nat}{v:Value}{l:List RawS}(h:w.ownsRow base 55 3 v l.length (l.flatMap evCells)) : EvsIn w v l:=by
 have h':=h;rcases h.2 with⟨hv,h0⟩ | ⟨g,cap,cur,hv,hg,hh,hn,hm,hsz,ht⟩
 ·exact Or.inl ⟨List.length_eq_zero_iff.1 h0,none,0,hv⟩
 ·by_cases hl:l=[]
  ·subst hl;exact Or.inl ⟨rfl,_,_,hv⟩
  ·refine Or.inr ⟨List.length_pos_iff.2 hl,g,0,cap,hv,hn,(Array.getElem?_eq_some_iff.1 hh).1,fun i x hx=>?_⟩;have hi:i<l.length:=(List.getElem?_eq_some_iff.1 hx).1;rw[hv] at h';have c0:=(h'.cellAt (i*3+0) (by omega)).trans (flat_at l i x hx 0 (by omega));have c1:=(h'.cellAt (i*3+1) (by omega)).trans (flat_at l i x hx 1 (by omega));have c2:=(h'.cellAt (i*3+2) (by omega)).trans (flat_at l i x hx 2 (by omega));rw[Nat.zero_add];exact⟨c0,c1,c2⟩
theorem owns_below3 {w w':World}{base B n size:Nat}{e:TypeId}{v:Value}{xs:List Value}(h:w.ownsRow base e size v n xs)(hb:Below B w w')(hB:w.heap.size≤B) : w'.ownsRow base e size v n xs:=by
 refine⟨h.1, ?_⟩;rcases h.2 with h0 | ⟨g,cap,cur,hv,hg,hh,r⟩
 ·exact Or.inl h0
 ·obtain⟨hlt,_⟩:=Array.getElem?_eq_some_iff.1 hh;exact Or.inr ⟨g,cap,cur,hv,hg,(hb.block g (Nat.lt_of_lt_of_le hlt hB)).trans hh,r⟩
theorem info_ev : (Tryz.prog.info? 55).map (fun i=>(i.zero,i.size,i.bytes))=some (some (.agg #[.string ByteArray.empty,.string ByteArray.empty,.float .f64 0]),3,40):=by kernel_rfl
theorem take_more (l:List RawS)(k:Nat)(x:RawS)(h:l[k]? = some x) : l.take (k+1)=l.take k++[x]:=by
 rw[List.take_add_one,h];rfl
theorem EvsIn.form {w:World}{v:Value}{l:List RawS}(h:EvsIn w v l) : ∃ A c,v = .slice A l.length c:=by
 rcases h with⟨rfl,a,c,rfl⟩ | ⟨_,b,off,cap,rfl,_⟩
 ·exact⟨_,_,rfl⟩
 ·exact⟨_,_,rfl⟩
theorem EvsIn.pos {w:World}{A:Option Addr}{n c:Nat}{l:List RawS}(h:EvsIn w (.slice A n c) l)(hl:0<l.length) : ∃ b off,A=some ⟨b,off,none⟩∧b<w.heap.size ∧
  ∀ i x,l[i]? = some x→w.cell? ⟨b,off+i*3,none⟩=some (.string x.t)∧w.cell? ⟨b,off+i*3+1,none⟩=some (.string x.d)∧w.cell? ⟨b,off+i*3+2,none⟩=some (.float .f64 x.b):=by
 rcases h with⟨rfl,_⟩ | ⟨_,b,off,cap,hv,_,hb,hc⟩
 ·cases hl
 ·cases hv;exact⟨b,off,rfl,hb,hc⟩
end
end Go.Proofs.YtokbfellcadkpaaGreat
namespace Go.Proofs.YtokbfellcadkpaaGreat
open Go.RowKit
set_option linter.unusedVariables false
attribute [local go_sem] run_store_float
structure EvSz (x:RawS) : Prop where
 t:x.t.size≤100000
 d:x.d.size≤100000
 b:x.b<18446744073709551616
structure BatIn (w:World)(s:ByteArray)(f:Int)(v:Value)(l:List RawS) : Prop where
 s:s.size≤100000
 f:(Lit.int .i64 f).wf=true
 v:EvsIn w v l
 n:l.length≤300
 x:∀ x∈l,EvSz x
theorem BatIn.below {w w':World}{s:ByteArray}{f:Int}{v:Value}{l:List RawS}(h:BatIn w s f v l)(hb:Below w.heap.size w w') : BatIn w' s f v l:=⟨h.s,h.f,h.v.below hb (Nat.le_refl _),h.n,h.x⟩
end Go.Proofs.YtokbfellcadkpaaGreat
namespace Go.Proofs.YtokbfellcadkpaaGreat
open Go.RowKit
set_option linter.unusedVariables false
attribute [local go_sem] run_store_float
set_option maxHeartbeats 1600000 in
set_option maxRecDepth 100000 in
theorem checkev_any (p po c:Nat)(l:List RawS)(w:World)(hl2:l.length≤300)(hx:∀ x∈l,EvSz x)(hp:p<w.heap.size)
  (ca:∀ i x,l[i]? = some x→w.cell? ⟨p,po+i*3,none⟩=some (.string x.t)∧w.cell? ⟨p,po+i*3+1,none⟩=some (.string x.d)∧w.cell? ⟨p,po+i*3+2,none⟩=some (.float .f64 x.b)) :
  Calls Tryz.prog 120 #[.slice (some ⟨p,po,none⟩) l.length c] w fun e w'=>e = .returned (.int .i64 (lchk l))∧Below w.heap.size w w':=by
 have Hat:=Lib.hid (fun(k:Nat) (x:RawS) h1 h2 h3=>lchk_at (l:=l) (k:=k) (x:=x) h1 h2 h3);have Hall:=Lib.hid (fun(k:Nat) h1 h2=>lchk_all (l:=l) (k:=k) h1 h2);generalize lchk l=r at *;go_enter Tryz.func120,Tryz.ntmps120;go_wp2;go_step3;go_wp2;go_step3;go_wp2;go_loopw [2,7] (fun e i wr=>∃ k:Nat,k≤l.length∧i = .int .i64 k∧e = .int .i64 0∧(∀ (i:Nat) (x:RawS),i<k→l[i]? = some x→echk x=0)∧Below w.heap.size w wr) (fun _ i _=>l.length-(intOf i).toNat)
 case atStart=>exact⟨0,Nat.zero_le _,rfl,rfl,fun i x h=>absurd h (by omega),Below.refl _ _⟩
 case round =>
  obtain⟨k,hk,rfl,rfl,hall,hbel⟩:=hrel;have HA:=Lib.hid hall;clear hall;by_cases hlt:k<l.length
  ·obtain⟨x,hx0⟩:∃ x,l[k]? = some x:=⟨l[k],List.getElem?_eq_getElem hlt⟩
   obtain⟨a0,a1,a2⟩:=ca k x hx0;have wx:=hx x (List.mem_of_getElem? hx0);have HC:=Lib.hid fun W=>check_any x.t x.d x.b W (by have:=wx.t;unfold maxLen;omega) (by have:=wx.d;unfold maxLen;omega)
   have HX:=Lib.hid hx0;have HQ:=Lib.hid (show echk x=chk x.t x.d from rfl);have k0:=keep_cell hbel hp a0;have k1:=keep_cell hbel hp a1;have k2:=keep_cell hbel hp a2;clear hx0 a0 a1 a2 wx ca hx;have hcs:=chk_cases x.t x.d;generalize chk x.t x.d=o at *;have s1:(k:Int)<(l.length:Int):=by omega
   by_cases ho:o=0
   ·subst ho;have HQ':=HQ.out
    have HN:∀ (i:Nat) (y:RawS),i<k+1→l[i]? = some y→echk y=0:=fun i y hi hy=>by
     by_cases e:i=k
     ·subst e;rw[HX.out] at hy;cases hy;exact HQ'
     ·exact HA.out i y (by omega) hy
    have HN':=Lib.hid HN;clear HN HQ';obtain⟨t,d,n⟩:=x;simp only at k0 k1 k2 HC;clear HQ HX hcs;go_wp2_with fail;refine(HC.out _).mono ?_;rintro e w1 ⟨rfl,hb1⟩;have hbel1:Below w.heap.size w w1:=bj (hbel.alloc hbel.size _) hb1;clear hbel hb1 k0 k1 k2;go_wp2;go_roundw
    case rel=>exact⟨k+1,by omega,by go_num,rfl,HN'.out,hbel1⟩
    case measure=>simp[intOf];omega
   ·have hr:=Hat.out k x HA.out HX.out (by rw[HQ.out];exact ho);rw[HQ.out] at hr;have e1:((o:Int) != 0)=true:=by simp;exact ho
    subst hr;clear hcs ho;obtain⟨t,d,n⟩:=x;simp only at k0 k1 k2 HC;clear HQ HX;go_wp2_with fail;refine(HC.out _).mono ?_;rintro e w1 ⟨rfl,hb1⟩;have hbel1:Below w.heap.size w w1:=bj (hbel.alloc hbel.size _) hb1;clear hbel hb1 k0 k1 k2;go_wp2
    (try rw[Exit.noGoto_ret])
    go_ret;exact⟨rfl,hbel1⟩
  ·obtain rfl:k=l.length:=by omega
   have s1:¬ (l.length:Int)<(l.length:Int):=by omega
   have hr:=Hall.out _ HA.out (Nat.le_refl _);subst hr;go_wp2
   (try rw[Exit.noGoto_ret])
   go_ret;exact⟨rfl,hbel⟩
theorem bcheckp_no (s:ByteArray)(f:Int)(A:Option Addr)(n c:Nat)(r:Int)(w:World)(hs:s.size≤100000)(hf:(Lit.int .i64 f).wf=true)(hn:n≤300)
  (h:((s.size=0∨n=0)∧r=2)∨(¬ (s.size=0∨n=0)∧(32<s.size∨8<n)∧r=3)∨(¬ (s.size=0∨n=0)∧¬ (32<s.size∨8<n)∧(f<0∨1073741824-(n:Int)<f)∧r=2)) :
  Calls Tryz.prog 55 #[batV s f (.slice A n c)] w fun e w'=>e = .returned (.int .i64 r)∧Below w.heap.size w w':=by
 have hb:=bounds_i64 hf;unfold batV;by_cases h0:s.size=0
 ·have r2:r=2:=by omega
  subst r2;have t0:((s.size:Int)==0)=true:=beq_iff_eq.2 (by omega);clear h;go_enter Tryz.func55,Tryz.ntmps55;go_wp2;go_ret;exact⟨rfl,(Below.refl _ _).alloc (Nat.le_refl _) _⟩
 ·have t0:((s.size:Int)==0)=false:=beq_eq_false_iff_ne.2 (by omega);by_cases h1:n=0
  ·have r2:r=2:=by omega
   subst r2;have t1:((n:Int)==0)=true:=beq_iff_eq.2 (by omega);clear h h0 h1;go_enter Tryz.func55,Tryz.ntmps55;go_wp2;go_ret;exact⟨rfl,(Below.refl _ _).alloc (Nat.le_refl _) _⟩
  ·have t1:((n:Int)==0)=false:=beq_eq_false_iff_ne.2 (by omega);by_cases h2:32<s.size
   ·have r2:r=3:=by omega
    subst r2;have t2:decide ((32:Int)<(s.size:Int))=true:=decide_eq_true (by omega);clear h h0 h1;go_enter Tryz.func55,Tryz.ntmps55;go_wp2;go_ret;exact⟨rfl,(Below.refl _ _).alloc (Nat.le_refl _) _⟩
   ·have t2:decide ((32:Int)<(s.size:Int))=false:=decide_eq_false (by omega);by_cases h3:8<n
    ·have r2:r=3:=by omega
     subst r2;have t3:decide ((8:Int)<(n:Int))=true:=decide_eq_true (by omega);clear h h0 h1;go_enter Tryz.func55,Tryz.ntmps55;go_wp2;go_ret;exact⟨rfl,(Below.refl _ _).alloc (Nat.le_refl _) _⟩
    ·have t3:decide ((8:Int)<(n:Int))=false:=decide_eq_false (by omega);have r2:r=2:=by omega
     subst r2;by_cases h4:f<0
     ·have t4:decide (f<0)=true:=decide_eq_true h4;clear h h0 h1;go_enter Tryz.func55,Tryz.ntmps55;go_wp2;go_ret;exact⟨rfl,(Below.refl _ _).alloc (Nat.le_refl _) _⟩
     ·have t4:decide (f<0)=false:=decide_eq_false h4;have t5:decide ((1073741824:Int)-(n:Int)<f)=true:=decide_eq_true (by omega);clear h h0 h1;go_enter Tryz.func55,Tryz.ntmps55;go_wp2;go_ret;exact⟨rfl,(Below.refl _ _).alloc (Nat.le_refl _) _⟩
set_option maxHeartbeats 1600000 in
set_option maxRecDepth 100000 in
theorem bcheckp_evs (s:ByteArray)(f:Int)(p po c:Nat)(l:List RawS)(w:World)(hs:1≤s.size)(hs2:s.size≤32)(hl:1≤l.length)(hl2:l.length≤8)(hf:0≤f)(hf2:f≤1073741824-(l.length:Int))(hx:∀ x∈l,EvSz x)(hp:p<w.heap.size)
  (ca:∀ i x,l[i]? = some x→w.cell? ⟨p,po+i*3,none⟩=some (.string x.t)∧w.cell? ⟨p,po+i*3+1,none⟩=some (.string x.d)∧w.cell? ⟨p,po+i*3+2,none⟩=some (.float .f64 x.b)) :
  Calls Tryz.prog 55 #[batV s f (.slice (some ⟨p,po,none⟩) l.length c)] w fun e w'=>e = .returned (.int .i64 (lchk l))∧Below w.heap.size w w':=by
 unfold batV;have t0:((s.size:Int)==0)=false:=beq_eq_false_iff_ne.2 (by omega);have t1:((l.length:Int)==0)=false:=beq_eq_false_iff_ne.2 (by omega);have t2:decide ((32:Int)<(s.size:Int))=false:=decide_eq_false (by omega);have t3:decide ((8:Int)<(l.length:Int))=false:=decide_eq_false (by omega);have t4:decide (f<0)=false:=decide_eq_false (by omega);have t5:decide ((1073741824:Int)-(l.length:Int)<f)=false:=decide_eq_false (by omega);have hbel:Below w.heap.size w (w.alloc (.cells #[.string s,.int .i64 f,.slice (some ⟨p,po,none⟩) l.length c] 53)):=(Below.refl _ _).alloc (Nat.le_refl _) _
 have HE:=Lib.hid (checkev_any p po c l (w.alloc (.cells #[.string s,.int .i64 f,.slice (some ⟨p,po,none⟩) l.length c] 53)) (by omega) hx (by simp;omega)
  (fun i x hx=>⟨keep_cell hbel hp (ca i x hx).1,keep_cell hbel hp (ca i x hx).2.1,keep_cell hbel hp (ca i x hx).2.2⟩))
 generalize lchk l=r at *;clear ca hx;go_enter Tryz.func55,Tryz.ntmps55;go_wp2_with fail;refine HE.out.mono ?_;rintro e w1 ⟨rfl,hb1⟩;go_wp2;go_ret;exact⟨rfl,hbel.trans (hb1.mono (by simp))⟩
theorem bcheck_any (s:ByteArray)(f:Int)(v:Value)(l:List RawS)(w:World)(h:BatIn w s f v l) :
  Calls Tryz.prog 55 #[batV s f v] w fun e w'=>e = .returned (.int .i64 (bchk s f l))∧Below w.heap.size w w':=by
 obtain⟨A,c,rfl⟩:=h.v.form;by_cases h1:s.size=0∨l.length=0
 ·rw[bchk_arg h1];exact bcheckp_no s f A l.length c 2 w h.s h.f h.n (Or.inl ⟨h1,rfl⟩)
 ·by_cases h2:32<s.size∨8<l.length
  ·rw[bchk_long h1 h2];exact bcheckp_no s f A l.length c 3 w h.s h.f h.n (Or.inr (Or.inl ⟨h1,h2,rfl⟩))
  ·by_cases h3:f<0∨1073741824-(l.length:Int)<f
   ·rw[bchk_first h1 h2 h3];exact bcheckp_no s f A l.length c 2 w h.s h.f h.n (Or.inr (Or.inr ⟨h1,h2,h3,rfl⟩))
   ·rw[bchk_evs h1 h2 h3];obtain⟨p,po,rfl,hp,ca⟩:=h.v.pos (by omega);exact bcheckp_evs s f p po c l w (by omega) (by omega) (by omega) (by omega) (by omega) (by omega) h.x hp ca
end Go.Proofs.YtokbfellcadkpaaGreat
namespace Go.Proofs.YtokbfellcadkpaaGreat
open Go.RowKit
set_option linter.unusedVariables false
attribute [local go_sem] run_store_float
def NoBat (w:World)(e:Ending)(w':World) : Prop:=e = .returned (.tuple #[batV ByteArray.empty 0 (.slice none 0 0),.int .i64 10])∧Below w.heap.size w w'
def GotBat (s:ByteArray)(w:World)(e:Ending)(w':World) : Prop:=∃ u,e = .returned (.tuple #[batV (bgS s) (bgF s) u,.int .i64 (bgE s)])∧EvsIn w' u (bgL s)∧Below w.heap.size w w'
theorem gotb_no {s:ByteArray}{w w':World}{e:Ending}(h:bgOk s=false)(hn:NoBat w e w') : GotBat s w e w':=by
 obtain⟨e1,e2,e3,e4⟩:=bg_no h;unfold GotBat;rw[e1,e2,e3,e4];exact⟨_,hn.1,Or.inl ⟨rfl,_,_,rfl⟩,hn.2⟩
theorem rd_none {s:ByteArray}(h:rdOk s=false) : rdB s=ByteArray.empty:=by simp[rdB,h]
theorem Blk3.set {w:World}{g:Nat}{T:TypeId}{x y z:Value}(h:Blk3 w g T x y z)(x' y' z':Value) : Blk3 (((w.setCell ⟨g,0,none⟩ x').setCell ⟨g,1,none⟩ y').setCell ⟨g,2,none⟩ z') g T x' y' z':=by
 unfold Blk3 at h ⊢;simp[World.setCell,Array.getElem?_modify,h]
theorem below_box3 {w w2:World}(h:Below w.heap.size w w2)(x y z:Value) :
  Below w.heap.size w (((w2.setCell ⟨w.heap.size,0,none⟩ x).setCell ⟨w.heap.size,1,none⟩ y).setCell ⟨w.heap.size,2,none⟩ z):=((h.setCell (Nat.le_refl _) _).setCell (Nat.le_refl _) _).setCell (Nat.le_refl _) _
theorem grown_set (W:World)(b i:Nat)(v:Value) : W.grownBy (W.setCell ⟨b,i,none⟩ v) (some b):=⟨rfl,rfl,rfl,by simp[World.setCell],fun k _ hk=>Below.heap_setCell _ _ _ _ (fun e=>hk (by rw[e]))⟩
theorem owns_form3 {w:World}{base n size:Nat}{e:TypeId}{v:Value}{xs:List Value}(h:w.ownsRow base e size v n xs) : ∃ A c,v = .slice A n c:=by
 rcases h.2 with⟨hv,h0⟩ | ⟨g,cap,cur,hv,_⟩
 ·exact⟨none,0,by rw[hv,h0]⟩
 ·exact⟨_,cap,hv⟩
theorem bat_byte_at {R:ByteArray}(h:8<R.size){s:ByteArray}(e:rdB s=R) : bgM s=(R[8]'h).toNat:=by
 subst e;unfold bgM;rw[dif_pos h]
theorem evSz_of {x:RawS}(h:EvOk x) : EvSz x:=by
 have:=chk_zero.1 h.c;exact⟨by omega,by omega,h.b⟩
end Go.Proofs.YtokbfellcadkpaaGreat
namespace Go.Proofs.YtokbfellcadkpaaGreat
open Go.RowKit
set_option linter.unusedVariables false
attribute [local go_sem] run_store_float
def GotEvs (M:Nat)(s:ByteArray)(w:World)(e:Ending)(w':World) : Prop :=
 ∃ v q,e = .returned (.tuple #[v,.bool q])∧Below w.heap.size w w'∧((q=false∧(∃ A n c,v = .slice A n c)∧∀ l,evsR M s≠some (l,ByteArray.empty))∨(q=true∧∃ l,evsR M s=some (l,ByteArray.empty)∧w'.ownsRow w.heap.size 55 3 v l.length (l.flatMap evCells)))
set_option maxHeartbeats 1500000 in
set_option maxRecDepth 100000 in
theorem revs_any (s:ByteArray)(M:Nat)(w:World)(hs:s.size≤100000)(hM:M<256) :
  Calls Tryz.prog 231 #[.string s,.int .i64 (M:Nat)] w (GotEvs M s w):=by
 obtain⟨i0,hi,hz0,hz1,hz2⟩:=info_parts info_ev;obtain⟨ev,hev⟩:∃ ev,evsR M s=ev:=⟨_,rfl⟩
 have HG:=Lib.hid (fun(e:Ending) (w':World) (h:∃ v q,e = .returned (.tuple #[v,.bool q])∧Below w.heap.size w w'∧((q=false∧(∃ A n c,v = .slice A n c)∧∀ l,ev≠some (l,ByteArray.empty))∨(q=true∧∃ l,ev=some (l,ByteArray.empty)∧w'.ownsRow w.heap.size 55 3 v l.length (l.flatMap evCells))))=>(show GotEvs M s w e w' by unfold GotEvs;rw[hev];exact h));have HB1:=Lib.hid (show ev=(evsR (M-0) s).map (fun p=>(([]:List RawS)++p.1,p.2)) by rw[← hev];simp);clear hev;go_enter Tryz.func231,Tryz.ntmps231;go_wp2;go_loopw [0,4,10] (fun r v i wr=>∃ (k:Nat) (R':ByteArray) (dn:List RawS),k≤M∧r = .string R'∧i = .int .i64 k∧dn.length=k∧R'.size≤100000∧ev=(evsR (M-k) R').map (fun p=>(dn++p.1,p.2))∧wr.ownsRow w.heap.size 55 3 v dn.length (dn.flatMap evCells)∧Below w.heap.size w wr) (fun _ _ i _=>M-(intOf i).toNat)
 case atStart=>exact⟨0,s,[],Nat.zero_le _,rfl,rfl,rfl,hs,HB1.out,World.ownsRow_nil _ _ _ _,Below.refl _ _⟩
 case round =>
  obtain⟨k,R',dn,hk,rfl,rfl,hdn,hRz,hev,hown,hbel⟩:=hrel;rw[hdn] at hown;have HV:=Lib.hid hev;clear hev HB1;obtain⟨A',c',rfl⟩:=owns_form3 hown;by_cases hlt:k<M
  ·have s1:(k:Int)<(M:Int):=by omega
   have HRd:=Lib.hid fun W=>readev_any R' W (by unfold maxLen;omega)
   cases ho:erOk R' with
   | false =>
     have hnone:ev=none:=by
      rw[HV.out,show M-k=(M-k-1)+1 by omega,evsR_no ho];rfl
     have HN:=Lib.hid hnone;clear hnone;obtain⟨q1,q2,q3,q4⟩:=er_no ho;rw[q1,q2,q3,q4,ho] at HRd;clear q1 q2 q3 q4 ho;go_wp2_with fail;refine(HRd.out _).mono ?_;rintro e w3 ⟨rfl,hb3⟩;have hbel3:=bj hbel hb3;clear hb3 hown hbel;go_wp2;go_ret2;exact HG.out _ _ ⟨_,_,rfl,hbel3.alloc hbel3.size _,Or.inl ⟨rfl,⟨_,_,_,rfl⟩,fun l e=>by rw[HN.out] at e;cases e⟩⟩
   | true =>
     have hrz:(erR R').size≤100000:=by
      rw[(er_yes ho).2.2.2,ByteArray.size_extract];have:=rdB_size (rdB R');have:=rdB_size R';unfold erL;omega
     have hev2:ev=(evsR (M-(k+1)) (erR R')).map (fun p=>(dn++[⟨erT R',erD R',erW R'⟩]++p.1,p.2)):=by
      rw[HV.out,show M-k=(M-(k+1))+1 by omega,evsR_step ho,Option.map_map];congr 1;funext p;simp
     have HV2:=Lib.hid hev2;rw[ho] at HRd;clear hev2 HV ho;generalize erT R'=t at *;generalize erD R'=d at *;generalize erW R'=b at *;generalize erR R'=R2 at *;go_wp2_with fail;refine(HRd.out _).mono ?_;rintro e w3 ⟨rfl,hb3⟩;have hbel3:=bj hbel hb3;have hown3:=owns_below3 hown hb3 (Nat.le_refl _);clear hb3 hown hbel
     go_wp2_with (first
      | (at_builtin;refine wpList_append_own _ rfl _ _ 51 rfl w.heap.size 55 i0 (.agg #[.string ByteArray.empty,.string ByteArray.empty,.float .f64 0]) 3 40 Tryz.underlying51 hi hz0 hz1 hz2 rfl (by decide) _ _ _ rfl ((hown3.alloc _).alloc _) ⟨w3.heap.size+1,0,none⟩ 1 1 [.string t,.string d,.float .f64 b] rfl rfl ?c1 ?c2 ?c3 ?c4 ?c5 ?_))
     case c1 =>
      intro j u hj
      match j,hj with
      | 0,hj=>simp at hj;subst hj;simp[Addr.add]
      | 1,hj=>simp at hj;subst hj;simp[Addr.add]
      | 2,hj=>simp at hj;subst hj;simp[Addr.add]
     case c2 =>
      intro u hu;simp at hu;rcases hu with rfl | rfl | rfl<;>rfl
     case c3=>unfold maxLen;omega
     case c4=>omega
     case c5=>have:=hbel3.size;simp;omega
     ·intro v' w4 hown' hgrow _;have hbel4:=((hbel3.alloc hbel3.size (.cells #[.string t,.string d,.float .f64 b] 55)).alloc (by have:=hbel3.size;simp;omega) (.cells #[.string t,.string d,.float .f64 b] 55)).grown hgrow (by have:=hbel3.size;simp;omega) (fun q e=>(hown3.lt q e).1);clear hgrow hown3 hbel3;go_wp2;go_roundw
      case rel =>
       refine⟨k+1,R2,dn++[⟨t,d,b⟩],by omega,rfl,by go_num,by rw[List.length_append,hdn];rfl,hrz,HV2.out, ?_,hbel4⟩;rw[List.flatMap_append,List.length_append,hdn];exact hown'
      case measure=>simp[intOf];omega
  ·obtain rfl:k=M:=by omega
   have s1:¬ (k:Int)<(k:Int):=by omega
   have hev3:ev=some (dn,R'):=by rw[HV.out,Nat.sub_self];simp[evsR]
   have HE3:=Lib.hid hev3;clear HV hev3;by_cases hr:R'.size=0
   ·have hR0:R'=ByteArray.empty:=ByteArray.ext (Array.eq_empty_of_size_eq_zero hr);subst hR0;go_wp2;go_ret2;exact HG.out _ _ ⟨_,_,rfl,hbel,Or.inr ⟨rfl,dn,HE3.out,by rw[hdn];exact hown⟩⟩
   ·have t1:R'.toList.isEmpty=false:=by
     rw[List.isEmpty_eq_false_iff,Lib.toList_data];intro e;exact hr (by rw[Lib.size_eq,e];rfl)
    have HR:=Lib.hid hr;clear hr;go_wp2;go_ret2;exact HG.out _ _ ⟨_,_,rfl,hbel,Or.inl ⟨rfl,⟨_,_,_,rfl⟩,fun l e=>by rw[HE3.out] at e;cases e;exact HR.out rfl⟩⟩
theorem getS_one (R:ByteArray)(h:8<R.size){s:ByteArray}(e:rdB s=R) : getS (R.extract 8 9)=bgM s:=by
 rw[bat_byte_at h e]
 have w3:(R.extract 8 9).data.toList=[R[8]]:=by
  have hl:R.data.toList.length=R.size:=data_len _;rw[ByteArray.data_extract,Array.toList_extract,List.extract,List.drop_eq_getElem_cons (by omega)];simp;rfl
 unfold getS;rw[w3];simp[un]
theorem getS_eight (R:ByteArray) : getS (R.extract 0 8)=getS R:=by
 unfold getS;have e:(R.extract 0 8).data.toList=R.data.toList.take 8:=by simp
 rw[e,List.take_take,Nat.min_self]
theorem owns_base {w:World}{base B n size:Nat}{e:TypeId}{v:Value}{xs:List Value}(h:w.ownsRow base e size v n xs)(hB:B≤base) : w.ownsRow B e size v n xs:=by
 refine⟨h.1, ?_⟩;rcases h.2 with h0 | ⟨g,cap,cur,hv,hg,r⟩
 ·exact Or.inl h0
 ·exact Or.inr ⟨g,cap,cur,hv,Nat.le_trans hB hg,r⟩
def bgN (s:ByteArray) : Nat:=getS (rdB s)
def GotRead (s:ByteArray)(w:World)(e:Ending)(w':World) : Prop :=
 ∃ S F v q,e = .returned (.tuple #[batV S F v,.bool q])∧(∃ A n c,v = .slice A n c)∧Below w.heap.size w w'∧(q=false→bgOk s=false)∧(q=true→bgHead s=true∧S=rdA s∧F=(getS (rdB s):Nat)∧∃ l,bgEvs s=some (l,ByteArray.empty)∧w'.ownsRow w.heap.size 55 3 v l.length (l.flatMap evCells))
theorem gr_no {s:ByteArray}{w w':World}{e:Ending}(h:bgOk s=false)(he:e = .returned (.tuple #[batV ByteArray.empty 0 (.slice none 0 0),.bool false]))(hb:Below w.heap.size w w') : GotRead s w e w' :=
 ⟨_,_,_,_,he,⟨_,_,_,rfl⟩,hb,fun _=>h,fun h=>by cases h⟩
set_option maxHeartbeats 1500000 in
set_option maxRecDepth 100000 in
theorem bread_any (s:ByteArray)(w:World)(hs:s.size≤100000) :
  Calls Tryz.prog 198 #[.string s] w (GotRead s w):=by
 have HR:=Lib.hid fun W=>read_any s W (by unfold maxLen;omega)
 have hbz:=rdB_size s;have hbel:Below w.heap.size w (w.alloc (.cells #[.string ByteArray.empty,.int .i64 0,.slice none 0 0] 53)):=(Below.refl _ _).alloc (Nat.le_refl _) _;have E0:=Blk3.new w 53 (.string ByteArray.empty) (.int .i64 0) (.slice none 0 0);have hG:∀ (t:ByteArray) (W:World),t.size≤100→Calls Tryz.prog 84 #[.string t] W fun e w'=>e = .returned (.int .u64 (getS t:Nat))∧w'=W:=fun t W h=>(get_any t W (by unfold maxLen;omega)).mono fun e w' h=>⟨h.1,h.2.symm⟩
 by_cases h9:(rdB s).size<9
 ·have HN:=Lib.hid (fun e w'=>gr_no (s:=s) (w:=w) (w':=w') (e:=e) (bg_head (by unfold bgHead;rw[decide_eq_false (by omega)];simp)));have x1:decide (((rdB s).size:Int)<9)=true:=decide_eq_true (by omega);generalize rdB s=R at *;generalize rdA s=A at *;generalize rdOk s=q at *;clear hG hs;go_enter Tryz.func198,Tryz.ntmps198;go_wp2_with fail;refine(HR.out _).mono ?_;rintro e w1 ⟨rfl,hb1⟩;have E1:=E0.below hb1;have hbw:Below w.heap.size w w1:=hbel.trans (hb1.mono (by simp));obtain⟨k0,k1,k2,f0,f1,f2,_⟩:=E1.facts;clear E0 E1 hb1 hbel;go_wp2;exact bodyPost_ret (v:=.tuple #[.agg #[.string ByteArray.empty,.int .i64 0,.slice none 0 0],.bool false]) (by simp[results,Tryz.results198,go_sem,k0,k1,k2];rfl) rfl (HN.out _ _ rfl (below_box3 hbw _ _ _))
 ·have x1:decide (((rdB s).size:Int)<9)=false:=decide_eq_false (by omega);have x3:(8:Int)<((rdB s).size:Int):=by omega
  have x4:(9:Int)≤((rdB s).size:Int):=by omega
  have e8:=getS_eight (rdB s);have e9:=getS_one (rdB s) (by omega) (s:=s) rfl;have hg:=getS_lt (rdB s);have hMl:=bgM_lt s;have hcut1:((rdB s).extract 0 8).size≤100:=by rw[ByteArray.size_extract];omega
  have hcut2:((rdB s).extract 8 9).size≤100:=by rw[ByteArray.size_extract];omega
  have hzb:((rdB s).extract 9 (rdB s).size).size≤100000:=by rw[ByteArray.size_extract];omega
  have HBd:=Lib.hid (show bgEvs s=evsR (bgM s) ((rdB s).extract 9 (rdB s).size) from rfl);have HV:=Lib.hid fun W=>revs_any ((rdB s).extract 9 (rdB s).size) (bgM s) W hzb hMl
  have HG:=Lib.hid hG
  have hok:rdOk s=true:=by
   cases h:rdOk s with
   | true=>rfl
   | false=>rw[rd_none h] at x4;exact absurd x4 (by decide)
  have HH:=Lib.hid (show getS (rdB s)≤1073741824→bgHead s=true from fun h=>by unfold bgHead;rw[hok,decide_eq_true (by omega:9≤(rdB s).size),decide_eq_true h];rfl);have HX:=Lib.hid (show 1073741824<getS (rdB s)→bgHead s=false from fun h=>by unfold bgHead;rw[decide_eq_false (by omega:¬ getS (rdB s)≤1073741824)];simp);have HA:=Lib.hid (And.intro (rfl:rdA s=rdA s) (rfl:getS (rdB s)=getS (rdB s)));clear hG hs h9 hbz hzb hok;obtain⟨A,hA⟩:∃ A,rdA s=A:=⟨_,rfl⟩
  obtain⟨n,hn⟩:∃ n,getS (rdB s)=n:=⟨_,rfl⟩
  obtain⟨M,hM⟩:∃ M,bgM s=M:=⟨_,rfl⟩
  rw[hM] at HBd HV hMl e9;rw[hn] at HH HX hg e8;rw[hA] at HR;have HE:=Lib.hid (And.intro hA (show bgN s=n from hn));clear hA hn hM HA;generalize rdB s=R at *;generalize rdOk s=q at *;go_enter Tryz.func198,Tryz.ntmps198;go_wp2_with fail;refine(HR.out _).mono ?_;rintro e w1 ⟨rfl,hb1⟩;have E1:=E0.below hb1;have hbw:Below w.heap.size w w1:=hbel.trans (hb1.mono (by simp));clear E0 hb1 hbel;go_wp2_with fail;go_quiet ((go_at_call 84;exact Calls.quiet_of_same ((HG.out _ _ (by rw[ByteArray.size_extract];omega)))));rename_i nq _;rw[e8,e9];have E2:Blk3 (w1.drewN nq) w.heap.size 53 (.string ByteArray.empty) (.int .i64 0) (.slice none 0 0):=E1;have hbw2:=below_drewN hbw nq;generalize w1.drewN nq=w2 at *;clear E1 hbw HG HR hcut1 hcut2 e8 e9 x1;by_cases hn:1073741824<n
  ·have HN:=Lib.hid (fun e w'=>gr_no (s:=s) (w:=w) (w':=w') (e:=e) (bg_head (HX.out hn)));have x2:decide ((1073741824:Int)<(n:Int))=true:=decide_eq_true (by omega);obtain⟨k0,k1,k2,f0,f1,f2,_⟩:=E2.facts;clear hn HX HH HE HBd;go_wp2;exact bodyPost_ret (v:=.tuple #[.agg #[.string ByteArray.empty,.int .i64 0,.slice none 0 0],.bool false]) (by simp[results,Tryz.results198,go_sem,k0,k1,k2];rfl) rfl (HN.out _ _ rfl (below_box3 hbw2 _ _ _))
  ·have x2:decide ((1073741824:Int)<(n:Int))=false:=decide_eq_false (by omega);have hH:=HH.out (by omega);have hm:IntKind.i64.wrap (M:Int)=(M:Int):=by rw[IntKind.wrap_i64];omega
   have hm2:IntKind.i64.wrap (n:Int)=(n:Int):=by rw[IntKind.wrap_i64];omega
   have HHH:=Lib.hid hH;have hlt:=E2.lt;clear hn HX HH hH;generalize hbody:R.extract 9 R.size=body at *;go_wp2_with fail;refine(HV.out _).mono ?_;rintro e w3 ⟨v,q',rfl,hb3,hv⟩;have E3:=E2.below hb3;have hbw3:=bj hbw2 hb3
   have hform:∃ A n c,v = .slice A n c:=by
    rcases hv with⟨_,h,_⟩ | ⟨_,l,_,h⟩
    ·exact h
    ·obtain⟨a,c,h⟩:=owns_form3 h;exact⟨_,_,_,h⟩
   obtain⟨k0,k1,k2,f0,f1,f2,_⟩:=E3.facts;clear E2 hb3 hbw2 HV;obtain⟨B,m,c,rfl⟩:=hform;have HO:=Lib.hid hv;clear hv;go_wp2;refine bodyPost_ret (v:=.tuple #[.agg #[.string A,.int .i64 (n:Nat),.slice B m c],.bool q']) (by simp[results,Tryz.results198,go_sem,k0,k1,k2]) rfl ⟨A,(n:Nat),.slice B m c,q',rfl,⟨_,_,_,rfl⟩,below_box3 hbw3 _ _ _, ?_, ?_⟩
   ·intro h;rcases HO.out with⟨_,_,h2⟩ | ⟨h2,_⟩
    ·cases hb:bgOk s with
     | false=>rfl
     | true=>exact absurd (HBd.out.symm.trans (bg_yes hb).2.2.2.2.1) (h2 _)
    ·rw[h] at h2;cases h2
   ·intro h;rcases HO.out with⟨h2,_⟩ | ⟨_,l,h2,h3⟩
    ·rw[h] at h2;cases h2
    ·have hne:(Value.slice B m c).ownBlock≠some w.heap.size:=fun e=>by have:=(h3.lt _ e).1;omega
     refine⟨HHH.out,HE.out.1.symm,by rw[← HE.out.2];rfl,l,HBd.out.trans h2, ?_⟩;exact((owns_base h3 (by omega)).kept (grown_set _ w.heap.size 0 _) (.inr hne)).kept (grown_set _ w.heap.size 1 _) (.inr hne) |>.kept (grown_set _ w.heap.size 2 _) (.inr hne)
set_option maxHeartbeats 1500000 in
set_option maxRecDepth 100000 in
theorem bget_any (s:ByteArray)(w:World)(hs:s.size≤100000) : Calls Tryz.prog 157 #[.string s] w (GotBat s w):=by
 have hbel:Below w.heap.size w (w.alloc (.cells #[.string ByteArray.empty,.int .i64 0,.slice none 0 0] 53)):=(Below.refl _ _).alloc (Nat.le_refl _) _;have E0:=Blk3.new w 53 (.string ByteArray.empty) (.int .i64 0) (.slice none 0 0);have HR:=Lib.hid (bread_any s (w.alloc (.cells #[.string ByteArray.empty,.int .i64 0,.slice none 0 0] 53)) hs);have HA:=Lib.hid (Nat.le_trans (rdA_size s) hs);go_enter Tryz.func157,Tryz.ntmps157;go_wp2_with fail;refine HR.out.mono ?_;rintro e w1 ⟨S,F,v,q,rfl,⟨B,m,c,rfl⟩,hb1,hno,hyes⟩;have E1:=E0.below hb1;have hbw:Below w.heap.size w w1:=hbel.trans (hb1.mono (by simp));clear E0 hb1 hbel HR;obtain⟨k0,k1,k2,f0,f1,f2,_⟩:=E1.facts;have E2:=E1.set (.string S) (.int .i64 F) (.slice B m c);have hbw2:=below_box3 hbw (.string S) (.int .i64 F) (.slice B m c);unfold batV;cases q with
 | false =>
   have HN:=Lib.hid fun W' e=>gotb_no (w:=w) (w':=W') (e:=e) (hno rfl)
   obtain⟨j0,j1,j2,g0,g1,g2,_⟩:=E2.facts;obtain⟨c0,c1,c2,_⟩:=(E2.set (.string ⟨#[]⟩) (.int .i64 0) (.slice none 0 0)).facts;clear hno hyes E1 E2 hbw;go_wp2;exact bodyPost_ret (v:=.tuple #[.agg #[.string ByteArray.empty,.int .i64 0,.slice none 0 0],.int .i64 10]) (by simp[results,Tryz.results157,go_sem,c0,c1,c2];rfl) rfl (HN.out _ _ ⟨rfl,below_box3 hbw2 _ _ _⟩)
 | true =>
   obtain⟨hH,rfl,rfl,l,hl,hown⟩:=hyes rfl;obtain⟨_,_,e1⟩:=owns_form3 hown;cases e1;have hne:∀ g,w.heap.size+1≤g→(Value.slice B l.length c).ownBlock≠some w.heap.size:=fun g hg e=>by have:=(hown.lt _ e).1;simp at this;omega
   have hne':=hne (w.heap.size+1) (Nat.le_refl _);clear hne;have hown2:=((hown.kept (grown_set _ w.heap.size 0 (.string (rdA s))) (.inr hne')).kept (grown_set _ w.heap.size 1 (.int .i64 (getS (rdB s):Nat))) (.inr hne')).kept (grown_set _ w.heap.size 2 (.slice B l.length c)) (.inr hne');obtain⟨_,hlen,hok⟩:=evsR_form hl;have hMl:=bgM_lt s
   have hF:getS (rdB s)≤1073741824:=by
    unfold bgHead at hH;simp only[Bool.and_eq_true,decide_eq_true_eq] at hH;exact hH.2
   have HC:=Lib.hid (bcheck_any (rdA s) (getS (rdB s):Nat) (.slice B l.length c) l _ ⟨HA.out,WalkArith.wf_i64 (by omega),EvsIn.of_owns hown2,by omega,fun x hx=>evSz_of (hok x hx)⟩);have HY:=Lib.hid fun h=>bg_yes (bg_of hH hl h)
   have HZ:=Lib.hid fun h=>bg_rest hl (Or.inr h)
   have HO:=Lib.hid hown2;have HL:=Lib.hid hl;clear hno hyes hown hown2 hlen hok hMl hF hH HA hl hbw E1;obtain⟨j0,j1,j2,g0,g1,g2,_⟩:=E2.facts;unfold batV at HC;generalize hA:rdA s=A at *;generalize hn:getS (rdB s)=n at *;by_cases hc:bchk A (n:Nat) l=0
   ·obtain⟨_,y1,y2,y3,y4,_⟩:=HY.out hc;rw[HL.out] at y4;simp only[Option.some.injEq,Prod.mk.injEq] at y4;have HQ:=Lib.hid (And.intro y1 (And.intro y2 (And.intro y3 y4.1)));rw[hc] at HC;clear HY HZ hc y1 y2 y3 y4 HL hA hn;go_wp2_with fail;refine HC.out.mono ?_;rintro e w2 ⟨rfl,hb2⟩;have E3:=E2.below hb2;have hbw3:=bj hbw2 hb2;have HI:=Lib.hid (owns_below3 HO.out hb2 (Nat.le_refl _));clear hb2 E2 hbw2 HC HO k0 k1 k2 f0 f1 f2 j0 j1 j2 g0 g1 g2;obtain⟨k0,k1,k2,f0,f1,f2,_⟩:=E3.facts;go_wp2;refine bodyPost_ret (v:=.tuple #[.agg #[.string A,.int .i64 (n:Nat),.slice B l.length c],.int .i64 0]) (by simp[results,Tryz.results157,go_sem,k0,k1,k2]) rfl ⟨.slice B l.length c, ?_, ?_,below_box3 hbw3 _ _ _⟩
    ·rw[HQ.out.1,HQ.out.2.1,HQ.out.2.2.1];rfl
    ·rw[← HQ.out.2.2.2];exact EvsIn.of_owns (((HI.out.kept (grown_set _ w.heap.size 0 _) (.inr hne')).kept (grown_set _ w.heap.size 1 _) (.inr hne')).kept (grown_set _ w.heap.size 2 _) (.inr hne'))
   ·have hno2:=HZ.out hc;have HN:=Lib.hid fun W' e=>gotb_no (w:=w) (w':=W') (e:=e) hno2
    have t3:(bchk A (n:Nat) l != 0)=true:=by simp;exact hc
    have t4:(bchk A (n:Nat) l==0)=false:=by simp;exact hc
    clear HY HZ hc HL hA hn hno2 HO hne';generalize bchk A (n:Nat) l=r at *;go_wp2_with fail;refine HC.out.mono ?_;rintro e w2 ⟨rfl,hb2⟩;have E3:=E2.below hb2;have hbw3:=bj hbw2 hb2;clear hb2 E2 hbw2 HC k0 k1 k2 f0 f1 f2 j0 j1 j2 g0 g1 g2;obtain⟨k0,k1,k2,f0,f1,f2,_⟩:=E3.facts;obtain⟨c0,c1,c2,_⟩:=(E3.set (.string ⟨#[]⟩) (.int .i64 0) (.slice none 0 0)).facts;go_wp2;exact bodyPost_ret (v:=.tuple #[.agg #[.string ByteArray.empty,.int .i64 0,.slice none 0 0],.int .i64 10]) (by simp[results,Tryz.results157,go_sem,c0,c1,c2];rfl) rfl (HN.out _ _ ⟨rfl,below_box3 hbw3 _ _ _⟩)
end Go.Proofs.YtokbfellcadkpaaGreat
