/- ZpMfValid, ZpImApi, ZpImUse, ZpMfSame, ZpImStrs, ZpIxEntry -/
import Derived.Test.YtcpfkaehefcakaaGreatPp03
import Derived.Test.YtcpfkaehefcakaaGreatPp18
import Derived.Test.YtcpfkaehefcakaaGreatPp12
import Derived.Test.YtcpfkaehefcakaaGreatPp04
import Derived.Deep.Fields
import Derived.ChangeSame
import Derived.Test.YtcpfkaehefcakaaGreatPp05
import Derived.Shelf.Abstract
import Derived.BigQuiet
import Derived.Test.YtcpfkaehefcakaaGreatPp06
import Derived.WalkMore
namespace Go.Proofs.YtcpfkaehefcakaaGreat
set_option maxRecDepth 100000
set_option linter.unusedVariables false
section
open Go.RowKit Go.Shelf
def manV (n c:Int)(d:Nat)(v:Value) : Value:=.agg #[.int .i64 n,.int .i64 c,.int .u64 (d:Nat),v]
abbrev manO (n c:Int)(d:Nat)(v:Value) : Obj:=.cells #[.int .i64 n,.int .i64 c,.int .u64 (d:Nat),v] 38
theorem mayM_iff (n c:Int)(d:Nat)(R:LvL)(h0:0≤n)(h1:n≤1000000)(h2:0≤c)(h3:c≤2147483647)(hv:validL R=true) : mayM ⟨n,c,d,R⟩=true↔∀ x∈R.flatten,x<n:=by
 unfold mayM
 rw[decide_eq_true_iff]
 exact⟨fun h=>h.2.2.2.2.2,fun h=>⟨h0,h1,h2,h3,of_decide_eq_true hv,h⟩⟩
theorem mayM_lv {n c:Int}{d:Nat}{R:LvL}(hv:validL R=false) : mayM ⟨n,c,d,R⟩=false:=decide_eq_false fun h=>(of_decide_eq_false hv) h.2.2.2.2.1
theorem mayM_nums {n c:Int}{d:Nat}{R:LvL}(h:n<0∨1000000<n∨c<0∨2147483647<c) : mayM ⟨n,c,d,R⟩=false:=decide_eq_false fun hm=>by
 obtain⟨h1,h2,h3,h4,-⟩:=hm
 simp only at h1 h2 h3 h4
 omega
theorem mcell {B:Nat}{w w':World}{p:Addr}{v:Value}(hb:Below B w w')(hp:p.block<B)(h:w.cell? p=some v) : w'.cell? p=some v:=(hb.cell hp).trans h
theorem mval_nums (n c:Int)(d:Nat)(A:Option Addr)(k cp:Nat)(R:LvL)(w:World)(hq:n<0∨1000000<n∨c<0∨2147483647<c) :
  Calls Tryz.prog 34 #[manV n c d (.slice A k cp)] w fun e w'=>e = .returned (.bool (mayM ⟨n,c,d,R⟩))∧Below w.heap.size w w':=by
 rw[mayM_nums hq]
 have hb:=(Below.refl w.heap.size w).alloc (Nat.le_refl _) (manO n c d (.slice A k cp))
 unfold manV
 by_cases h0:n<0
 ·have q0:decide (n<0)=true:=decide_eq_true h0
  clear hq
  go_enter Tryz.func34,Tryz.ntmps34
  go_wp2
  go_ret
  exact⟨rfl,hb⟩
 ·have q0:decide (n<0)=false:=decide_eq_false h0
  by_cases h1:1000000<n
  ·have q1:decide (1000000<n)=true:=decide_eq_true h1
   clear hq
   go_enter Tryz.func34,Tryz.ntmps34
   go_wp2
   go_ret
   exact⟨rfl,hb⟩
  ·have q1:decide (1000000<n)=false:=decide_eq_false h1
   by_cases h2:c<0
   ·have q2:decide (c<0)=true:=decide_eq_true h2
    clear hq
    go_enter Tryz.func34,Tryz.ntmps34
    go_wp2
    go_ret
    exact⟨rfl,hb⟩
   ·have q2:decide (c<0)=false:=decide_eq_false h2
    have h3:2147483647<c:=by omega
    have q3:decide (2147483647<c)=true:=decide_eq_true h3
    clear hq
    go_enter Tryz.func34,Tryz.ntmps34
    go_wp2
    go_ret
    exact⟨rfl,hb⟩
set_option maxHeartbeats 1000000 in
theorem mval_any (n c:Int)(d:Nat)(A:Option Addr)(k cp:Nat)(R:LvL)(w:World)(h:LvsHas w (.slice A k cp) R)(hl:R.flatten.length≤100000)(hL:R.length≤100000) :
  Calls Tryz.prog 34 #[manV n c d (.slice A k cp)] w fun e w'=>e = .returned (.bool (mayM ⟨n,c,d,R⟩))∧Below w.heap.size w w':=by
 by_cases hq:n<0∨1000000<n∨c<0∨2147483647<c
 ·exact mval_nums n c d A k cp R w hq
 have q0:decide (n<0)=false:=decide_eq_false (by omega)
 have q1:decide (1000000<n)=false:=decide_eq_false (by omega)
 have q2:decide (c<0)=false:=decide_eq_false (by omega)
 have q3:decide (2147483647<c)=false:=decide_eq_false (by omega)
 have hb:=(Below.refl w.heap.size w).alloc (Nat.le_refl _) (manO n c d (.slice A k cp))
 have HB:=Lib.hid hb
 have h0:=h.below hb (Nat.le_refl _)
 have HV:=Lib.hid (lvalid_any _ R _ h0 hl hL)
 unfold manV
 cases hv:validL R with
 | false =>
   rw[hv] at HV
   rw[mayM_lv hv]
   clear h hb h0 hv hq
   go_enter Tryz.func34,Tryz.ntmps34
   go_wp2_with fail
   refine HV.out.mono ?_
   rintro e w1 ⟨rfl,hb1⟩
   have HB1:=Lib.hid hb1
   clear hb1
   go_wp2
   go_ret
   exact⟨rfl,bj HB.out HB1.out⟩
 | true =>
   rw[hv] at HV
   have HM:=Lib.hid (mayM_iff n c d R (by omega) (by omega) (by omega) (by omega) hv)
   have HALL:=Lib.hid (fun W (hW:Below (w.heap.size+1) (w.alloc (manO n c d (.slice A k cp))) W)=>lall_any _ R W (h0.below hW (by simp)) hl hL)
   obtain⟨m,hm⟩:∃ m,m=R.flatten.length:=⟨_,rfl⟩
   have HN:=Lib.hid hm
   unfold IntsOut at HALL
   rw[← hm] at HALL hl
   clear hm
   generalize mayM ⟨n,c,d,R⟩=q at *
   generalize R.flatten=l at *
   have c0:(w.alloc (manO n c d (.slice A k cp))).cell? ⟨w.heap.size,0,none⟩=some (.int .i64 n):=World.cell?_alloc_at _ _ _ _ rfl
   have c3:(w.alloc (manO n c d (.slice A k cp))).cell? ⟨w.heap.size,3,none⟩=some (.slice A k cp):=World.cell?_alloc_at _ _ _ _ rfl
   have C0:=Lib.hid c0
   have C3:=Lib.hid c3
   clear h hb h0 hv hq c0 c3
   go_enter Tryz.func34,Tryz.ntmps34
   go_wp2_with fail
   refine HV.out.mono ?_
   rintro e w1 ⟨rfl,hb1⟩
   rw[World.size_alloc] at hb1
   have c0:=mcell hb1 (show w.heap.size<w.heap.size+1 by omega) C0.out
   have c3:=mcell hb1 (show w.heap.size<w.heap.size+1 by omega) C3.out
   have hz1:=hb1.size
   rw[World.size_alloc] at hz1
   have HB1:=Lib.hid (HB.out.trans (hb1.mono (by simp)))
   have HA:=Lib.hid (HALL.out w1 hb1)
   clear hb1 HALL HV
   go_wp2_with fail
   refine HA.out.mono ?_
   rintro e w2 ⟨A2,c2,rfl,hr,hb2⟩
   have HB2:=Lib.hid (bj HB1.out (hb2.mono (by have:=HB1.out.size;omega)))
   have d0:=mcell hb2 (show w.heap.size<w1.heap.size by omega) c0
   obtain⟨A',off,cap,ev,-,hc⟩:=(IRow.in_ hr).form
   have ev':(Value.slice A2 m c2) = .slice A' m cap:=by rw[ev,← HN.out]
   obtain⟨rfl,-,rfl⟩:=Value.slice.inj ev'
   have HC:=Lib.hid hc
   clear hr hb2 hc HA c0 c3 ev ev'
   go_wp2
   go_loopw [33] (fun i wr=>∃ j:Nat,j≤m∧i = .int .i64 j∧(∀ i x,i<j→l[i]? = some x→x<n)∧wr=w2) (fun i _=>m-(intOf i).toNat)
   case atStart=>exact⟨0,Nat.zero_le _,rfl,fun i x hi=>(by omega),rfl⟩
   case round =>
    obtain⟨j,hj,rfl,hall,rfl⟩:=hrel
    have HAL:=Lib.hid hall
    clear hall
    by_cases hlt:j<m
    ·have l1:(j:Int)<(m:Int):=by omega
     obtain⟨x,hx⟩:∃ x,l[j]? = some x:=⟨_,List.getElem?_eq_getElem (by rw[← HN.out];exact hlt)⟩
     obtain⟨b,rfl,hb,cx⟩:=HC.out j x hx
     have HX:=Lib.hid hx
     clear hx hb
     by_cases hxn:n≤x
     ·have qf:q=false:=by
       cases q with
       | false=>rfl
       | true=>have:=HM.out.1 rfl x (List.mem_of_getElem? HX.out);omega
      subst qf
      have q4:decide (n≤x)=true:=decide_eq_true hxn
      go_wp2
      go_ret
      exact⟨rfl,HB2.out⟩
     ·have q4:decide (n≤x)=false:=decide_eq_false hxn
      go_wp2
      refine⟨⟨j+1,by omega,by go_num,fun i y hi hy=>?_,trivial⟩,by simp[intOf];omega⟩
      rcases Nat.lt_or_ge i j with e | e
      ·exact HAL.out i y e hy
      ·obtain rfl:i=j:=by omega
       rw[HX.out] at hy
       have:=Option.some.inj hy
       omega
    ·obtain rfl:j=m:=by omega
     have l1:¬ (j:Int)<(j:Int):=by omega
     have qt:q=true:=HM.out.2 fun x hx=>by
      obtain⟨i,hi⟩:=List.getElem?_of_mem hx
      exact HAL.out i x (by have:=(List.getElem?_eq_some_iff.1 hi).1;rw[← HN.out] at this;exact this) hi
     subst qt
     clear hlt
     go_wp2
     go_ret
     exact⟨rfl,HB2.out⟩
end
end Go.Proofs.YtcpfkaehefcakaaGreat
namespace Go.Proofs.YtcpfkaehefcakaaGreat
open Go.RowKit
set_option linter.unusedVariables false
set_option maxRecDepth 100000
def Holds (w0:World)(E:List Nat)(w:World)(v:Value)(R:LvL) : Prop:=∀ W,Below w0.heap.size w0 W→Kept E w W→LvsHas W v R
section
variable {At : Lies} {w0 w w' : World} {gd : Nat} {D : DiskS} {E E' : List Nat} {v : Value} {R : LvL}
theorem Holds.now (h:Holds w0 E w v R)(hd:DS At w0 gd D E w) : LvsHas w v R:=h w hd.kept (Kept.refl _ _)
end
def ImOrphEnd (At:Lies)(w0:World)(gd:Nat)(D:DiskS)(m:ManS)(E:List Nat)(w:World)(e:Ending)(w':World) : Prop :=
 ∃ v,e = .returned v∧StrsAt w' v (orphL (D.l.map FileS.name) m)∧DS At w0 gd D (ownL v++E) w'∧Kept E w w'
structure ImApi (At:Lies) : Prop where
 swap:∀ {w0 w:World} {gd:Nat} {D:DiskS} {E:List Nat} (n c:Int) (d:Nat) (A:Option Addr) (k cp:Nat) (R:LvL),DS At w0 gd D E w→WfP D→Holds w0 E w (.slice A k cp) R→k=R.length→R.flatten.length≤100000→R.length≤100000→d<18446744073709551616 →
  Calls Tryz.prog 154 #[ptr gd,manV n c d (.slice A k cp)] w (DEnd At w0 gd (err (swapP D ⟨n,c,d,R⟩).1) (swapP D ⟨n,c,d,R⟩).2 E w)
 swapn:∀ (n c:Int) (d:Nat) (A:Option Addr) (k cp:Nat) (w:World),Calls Tryz.prog 154 #[.pointer none,manV n c d (.slice A k cp)] w fun e w'=>e = .returned (err 1)∧Below w.heap.size w w'
 orphans:∀ {w0 w:World} {gd:Nat} {D:DiskS} {E:List Nat} (n c:Int) (d:Nat) (A:Option Addr) (k cp:Nat) (R:LvL),DS At w0 gd D E w→WfP D→Holds w0 E w (.slice A k cp) R→k=R.length→R.flatten.length≤100000→R.length≤100000 →
  Calls Tryz.prog 25 #[ptr gd,manV n c d (.slice A k cp)] w (ImOrphEnd At w0 gd D ⟨n,c,d,R⟩ E w)
 orphansn:∀ (n c:Int) (d:Nat) (A:Option Addr) (k cp:Nat) (R:LvL) (w:World),LvsHas w (.slice A k cp) R→R.flatten.length≤100000→R.length≤100000→Calls Tryz.prog 25 #[.pointer none,manV n c d (.slice A k cp)] w fun e w'=>(∃ A' c',e = .returned (.slice A' 0 c'))∧Below w.heap.size w w'
theorem im_new {At:Lies}(api:DiskApi At)(w:World)(c:Nat)(hc:c≤1048576) : Calls Tryz.prog 6 #[.int .i64 (c:Nat)] w fun e w'=>∃ g,e = .returned (.tuple #[ptr g,.int .i64 0])∧DS At w g (newS c) [] w':=by
 refine(api.new_ w.heap.size c w (Nat.le_refl _) hc).mono ?_
 rintro e w' ⟨g,F,h1,h2,h3,h4⟩
 exact⟨g,h1,F,h2,h4.below (Nat.le_refl _) (fun x hx=>(by cases hx)),fun b hb=>(by cases hb)⟩
end Go.Proofs.YtcpfkaehefcakaaGreat
namespace Go.Proofs.YtcpfkaehefcakaaGreat
open Go.RowKit
set_option linter.unusedVariables false
set_option maxRecDepth 100000
theorem StrsAt.own {w:World}{v:Value}{l:List ByteArray}(h:StrsAt w v l) : ∀ b∈ownL v,b<w.heap.size∨l=[]:=by
 intro b hb
 rcases h with⟨rfl,-⟩ | ⟨g,off,cap,rfl,-,-,hlt,-⟩
 ·exact Or.inr rfl
 ·have hv:=ownL_mem.1 hb
  obtain rfl:g=b:=by simpa[Value.ownBlock] using hv
  exact Or.inl hlt
section
variable {At : Lies} (api : DiskApi At) {w0 w : World} {gd : Nat} {D : DiskS} {E : List Nat}
include api
theorem im_names (h:DS At w0 gd D E w)(ok:WfP D) : Calls Tryz.prog 67 #[ptr gd] w fun e w'=>∃ v B,e = .returned v∧StrsAt w' v (D.l.map FileS.name)∧DS At w0 gd D (B++E) w'∧Kept E w w'∧(D.l≠[]→∀ b∈ownL v,b∈B):=by
 obtain⟨F,h1,h2,h3⟩:=h
 refine(api.names h1 ok.ok).mono ?_
 rintro e w' ⟨F',v,e1,e2,e3,e4,e5,e6⟩
 have hk:Kept E w w':=⟨e6.size,fun b hb=>e6.block b (h3 b hb).2 (h3 b hb).1⟩
 have hold:∀ b∈E,b ∉ F'∧b<w'.heap.size:=fun b hb=>⟨fun hm=>by
  rcases e5 b hm with k | k
  ·exact(h3 b hb).1 k
  ·have:=(h3 b hb).2;omega,Nat.lt_of_lt_of_le (h3 b hb).2 e6.size⟩
 have hbel:=h2.trans (e6.below h2.size (fun x hx=>(api.low h1 x hx).1))
 by_cases hl:D.l=[]
 ·exact⟨v,[],e1,e2,⟨F',e4,hbel,hold⟩,hk,fun h=>absurd hl h⟩
 ·refine⟨v,ownL v,e1,e2,⟨F',e4,hbel,fun b hb=>?_⟩,hk,fun _ b hb=>hb⟩
  rcases List.mem_append.1 hb with hb | hb
  ·have hv:=ownL_mem.1 hb
   rcases e2.own b hb with h | h
   ·exact⟨(e3 b hv).2,h⟩
   ·exact absurd (List.map_eq_nil_iff.1 h) hl
  ·exact hold b hb
end
theorem DS.box {At:Lies}(api:DiskApi At){w0 w:World}{gd:Nat}{D:DiskS}{E:List Nat}(h:DS At w0 gd D E w)(o:Obj) : DS At w0 gd D E (w.alloc o):=h.below api ((Below.refl w.heap.size w).alloc (Nat.le_refl _) o)
theorem Kept.ints {E:List Nat}{w w':World}{v:Value}{l:List Int}(h:Kept E w w')(hm:IntsIn w v l)(hE:∀ b∈ownL v,b∈E) : IntsIn w' v l:=by
 rcases hm with hm | ⟨b,off,cap,rfl,h1,h2,h3,h4⟩
 ·exact Or.inl hm
 ·exact Or.inr ⟨b,off,cap,rfl,h1,h2,Nat.lt_of_lt_of_le h3 h.size,fun i x hx=>(World.cell?_of_block (w:=w) (h.block b (hE b (ownL_mem.2 rfl)))).trans (h4 i x hx)⟩
end Go.Proofs.YtcpfkaehefcakaaGreat
namespace Go.Proofs.YtcpfkaehefcakaaGreat
set_option maxRecDepth 100000
set_option linter.unusedVariables false
section
open Go.RowKit Go.Shelf
theorem sameM_no {n1 c1 n2 c2:Int}{d1 d2:Nat}{R1 R2:LvL}(h:¬ (n1=n2∧c1=c2∧d1=d2)) : sameM ⟨n1,c1,d1,R1⟩ ⟨n2,c2,d2,R2⟩=false:=decide_eq_false fun e=>h ⟨e.1,e.2.1,e.2.2.1⟩
theorem sameM_lv (n c:Int)(d:Nat)(R1 R2:LvL) : sameM ⟨n,c,d,R1⟩ ⟨n,c,d,R2⟩=decide (trimL R1=trimL R2):=by
 unfold sameM
 congr 1
 simp
set_option maxHeartbeats 1000000 in
theorem msamel_any (n1 c1:Int)(d1:Nat)(A1:Option Addr)(k1 p1:Nat)(R1:LvL)(n2 c2:Int)(d2:Nat)(A2:Option Addr)(k2 p2:Nat)(R2:LvL)(w:World)
  (h1:LvsHas w (.slice A1 k1 p1) R1) (h2:LvsHas w (.slice A2 k2 p2) R2) (e1:k1=R1.length) (e2:k2=R2.length) (l1:k1≤100000) (l2:k2≤100000) :
  Calls Tryz.prog 23 #[manV n1 c1 d1 (.slice A1 k1 p1),manV n2 c2 d2 (.slice A2 k2 p2)] w fun e w'=>e = .returned (.bool (sameM ⟨n1,c1,d1,R1⟩ ⟨n2,c2,d2,R2⟩))∧Below w.heap.size w w':=by
 have hb:Below w.heap.size w ((w.alloc (manO n1 c1 d1 (.slice A1 k1 p1))).alloc (manO n2 c2 d2 (.slice A2 k2 p2))):=((Below.refl _ _).alloc (Nat.le_refl _) _).alloc (by simp) _
 obtain⟨W2,hW⟩:∃ W2,W2=(w.alloc (.cells #[.int .i64 n1,.int .i64 c1,.int .u64 (d1:Nat),.slice A1 k1 p1] 38)).alloc (.cells #[.int .i64 n2,.int .i64 c2,.int .u64 (d2:Nat),.slice A2 k2 p2] 38):=⟨_,rfl⟩
 have HW:=Lib.hid hW
 have x1:LvsHas W2 (.slice A1 k1 p1) R1:=by rw[hW];exact h1.below hb (Nat.le_refl _)
 have x2:LvsHas W2 (.slice A2 k2 p2) R2:=by rw[hW];exact h2.below hb (Nat.le_refl _)
 have HBW:Hid (Below w.heap.size w W2):=Lib.hid (by rw[hW];exact hb)
 have f10:W2.cell? ⟨w.heap.size,0,none⟩=some (.int .i64 n1):=by rw[hW];exact mcell (B:=w.heap.size+1) ((Below.refl _ _).alloc (by simp) _) (show w.heap.size<w.heap.size+1 by omega) (World.cell?_alloc_at _ _ _ _ rfl)
 have F10:=Lib.hid f10
 clear f10
 have f11:W2.cell? ⟨w.heap.size,1,none⟩=some (.int .i64 c1):=by rw[hW];exact mcell (B:=w.heap.size+1) ((Below.refl _ _).alloc (by simp) _) (show w.heap.size<w.heap.size+1 by omega) (World.cell?_alloc_at _ _ _ _ rfl)
 have F11:=Lib.hid f11
 clear f11
 have f12:W2.cell? ⟨w.heap.size,2,none⟩=some (.int .u64 (d1:Nat)):=by rw[hW];exact mcell (B:=w.heap.size+1) ((Below.refl _ _).alloc (by simp) _) (show w.heap.size<w.heap.size+1 by omega) (World.cell?_alloc_at _ _ _ _ rfl)
 have F12:=Lib.hid f12
 clear f12
 have f13:W2.cell? ⟨w.heap.size,3,none⟩=some (.slice A1 k1 p1):=by rw[hW];exact mcell (B:=w.heap.size+1) ((Below.refl _ _).alloc (by simp) _) (show w.heap.size<w.heap.size+1 by omega) (World.cell?_alloc_at _ _ _ _ rfl)
 have F13:=Lib.hid f13
 clear f13
 have f20:W2.cell? ⟨w.heap.size+1,0,none⟩=some (.int .i64 n2):=by rw[hW,show w.heap.size+1=(w.alloc (.cells #[.int .i64 n1,.int .i64 c1,.int .u64 (d1:Nat),.slice A1 k1 p1] 38)).heap.size by simp];exact World.cell?_alloc_at _ _ _ _ rfl
 have F20:=Lib.hid f20
 clear f20
 have f21:W2.cell? ⟨w.heap.size+1,1,none⟩=some (.int .i64 c2):=by rw[hW,show w.heap.size+1=(w.alloc (.cells #[.int .i64 n1,.int .i64 c1,.int .u64 (d1:Nat),.slice A1 k1 p1] 38)).heap.size by simp];exact World.cell?_alloc_at _ _ _ _ rfl
 have F21:=Lib.hid f21
 clear f21
 have f22:W2.cell? ⟨w.heap.size+1,2,none⟩=some (.int .u64 (d2:Nat)):=by rw[hW,show w.heap.size+1=(w.alloc (.cells #[.int .i64 n1,.int .i64 c1,.int .u64 (d1:Nat),.slice A1 k1 p1] 38)).heap.size by simp];exact World.cell?_alloc_at _ _ _ _ rfl
 have F22:=Lib.hid f22
 clear f22
 have f23:W2.cell? ⟨w.heap.size+1,3,none⟩=some (.slice A2 k2 p2):=by rw[hW,show w.heap.size+1=(w.alloc (.cells #[.int .i64 n1,.int .i64 c1,.int .u64 (d1:Nat),.slice A1 k1 p1] 38)).heap.size by simp];exact World.cell?_alloc_at _ _ _ _ rfl
 have F23:=Lib.hid f23
 clear f23
 clear h1 h2 hb hW
 unfold manV
 by_cases hn:n1=n2
 case neg =>
  rw[sameM_no fun e=>hn e.1]
  have t0:(n1==n2)=false:=by simp[hn]
  clear x1 x2 hn e1 e2
  go_enter Tryz.func23,Tryz.ntmps23
  go_wp2
  rw[← HW.out]
  have f10:=F10.out
  have f11:=F11.out
  have f12:=F12.out
  have f13:=F13.out
  have f20:=F20.out
  have f21:=F21.out
  have f22:=F22.out
  have f23:=F23.out
  clear F10 F11 F12 F13 F20 F21 F22 F23 HW
  go_quiet (fail)
  go_wp2
  go_ret
  exact⟨rfl,by exact below_drewN HBW.out _⟩
 subst hn
 by_cases hc:c1=c2
 case neg =>
  rw[sameM_no fun e=>hc e.2.1]
  have t0:(c1==c2)=false:=by simp[hc]
  clear x1 x2 hc e1 e2
  go_enter Tryz.func23,Tryz.ntmps23
  go_wp2
  rw[← HW.out]
  have f10:=F10.out
  have f11:=F11.out
  have f12:=F12.out
  have f13:=F13.out
  have f20:=F20.out
  have f21:=F21.out
  have f22:=F22.out
  have f23:=F23.out
  clear F10 F11 F12 F13 F20 F21 F22 F23 HW
  go_quiet (fail)
  go_wp2
  go_ret
  exact⟨rfl,by exact below_drewN HBW.out _⟩
 subst hc
 by_cases hd:d1=d2
 case neg =>
  rw[sameM_no fun e=>hd e.2.2]
  have t0:((d1:Int)==(d2:Int))=false:=by simp;omega
  clear x1 x2 hd e1 e2
  go_enter Tryz.func23,Tryz.ntmps23
  go_wp2
  rw[← HW.out]
  have f10:=F10.out
  have f11:=F11.out
  have f12:=F12.out
  have f13:=F13.out
  have f20:=F20.out
  have f21:=F21.out
  have f22:=F22.out
  have f23:=F23.out
  clear F10 F11 F12 F13 F20 F21 F22 F23 HW
  go_quiet (fail)
  go_wp2
  go_ret
  exact⟨rfl,by exact below_drewN HBW.out _⟩
 subst hd
 rw[sameM_lv]
 have t0:(n1==n1)=true:=by simp
 have t1:(c1==c1)=true:=by simp
 have t2:((d1:Int)==(d1:Int))=true:=by simp
 obtain⟨A3,c3,HT1⟩:=mltrim_all A1 k1 p1 R1 e1 l1
 obtain⟨A4,c4,HT2⟩:=mltrim_all A2 k2 p2 R2 e2 l2
 have HQ1:=Lib.hid (fun q=>(HT1 (W2.drewN q) x1).1)
 have HQ2:=Lib.hid (fun q=>(HT2 (W2.drewN q) x2).1)
 have HQ3:=Lib.hid (fun q=>lsame_any (.slice A3 (trimL R1).length c3) (.slice A4 (trimL R2).length c4) (trimL R1) (trimL R2) (W2.drewN q) ((HT1 W2 x1).2) ((HT2 W2 x2).2))
 unfold MTrimEnd at HQ1 HQ2
 unfold LIntsSame at HQ3
 clear HT1 HT2 x1 x2 e1 e2 l1 l2
 generalize (trimL R1).length=t1 at *
 generalize (trimL R2).length=t2 at *
 generalize decide (trimL R1=trimL R2)=qq at *
 go_enter Tryz.func23,Tryz.ntmps23
 go_wp2
 rw[← HW.out]
 have f10:=F10.out
 have f11:=F11.out
 have f12:=F12.out
 have f13:=F13.out
 have f20:=F20.out
 have f21:=F21.out
 have f22:=F22.out
 have f23:=F23.out
 clear F10 F11 F12 F13 F20 F21 F22 F23 HW
 go_quiet (first | (go_at_call 66;(with_reducible exact Calls.quiet_of_same (HQ1.out _))) | (go_at_call 66;(with_reducible exact Calls.quiet_of_same (HQ2.out _))) | (go_at_call 65;exact Calls.quiet_of (HQ3.out _)))
 go_wp2
 go_ret
 exact⟨rfl,by exact below_drewN HBW.out _⟩
end
section
open Go.ChangeShapes Go.WideShapes Go.ChangeAt Go.RowKit Go.Deep
abbrev strV (x:ByteArray) : Value:=.string x
theorem strV_one {l:List ByteArray} : ∀ u∈l.map strV,u.oneCell'=true:=by
 intro u hu
 obtain⟨x,-,rfl⟩:=List.mem_map.1 hu
 rfl
abbrev SRow (w:World)(base:Nat)(v:Value)(l:List ByteArray) : Prop:=w.ownsRow base 9 1 v l.length (l.map strV)
theorem SRow.nil (w:World)(base:Nat) : SRow w base (.slice none 0 0) []:=World.ownsRow_nil _ _ _ _
theorem SRow.in_ {w:World}{base:Nat}{v:Value}{l:List ByteArray}(h:SRow w base v l) : StrsAt w v l:=by
 have h':=h
 rcases h.2 with⟨hv,h0⟩ | ⟨g,cap,cur,hv,hg,hh,hn,hm,hsz,ht⟩
 ·exact Or.inl ⟨List.length_eq_zero_iff.1 h0,none,0,hv⟩
 ·refine Or.inr ⟨g,0,cap,hv,hn,hm,(Array.getElem?_eq_some_iff.1 hh).1,fun i x hx=>?_⟩
  have hi:i<l.length:=(List.getElem?_eq_some_iff.1 hx).1
  rw[hv] at h'
  rw[Nat.zero_add]
  refine(h'.cellAt i (by omega)).trans ?_
  show(l.map strV)[i]? = _
  rw[List.getElem?_map,hx]
  rfl
theorem SRow.below {w w':World}{base B:Nat}{v:Value}{l:List ByteArray}(h:SRow w base v l)(hb:Below B w w')(hB:w.heap.size≤B) : SRow w' base v l:=by
 refine⟨h.1, ?_⟩
 rcases h.2 with h0 | ⟨g,cap,cur,hv,hg,hh,r⟩
 ·exact Or.inl h0
 ·obtain⟨hlt,_⟩:=Array.getElem?_eq_some_iff.1 hh
  exact Or.inr ⟨g,cap,cur,hv,hg,(hb.block g (Nat.lt_of_lt_of_le hlt hB)).trans hh,r⟩
theorem SRow.block {w:World}{base:Nat}{v:Value}{l:List ByteArray}(h:SRow w base v l) : ∀ k,v.ownBlock=some k→base≤k∧k<w.heap.size:=fun k hk=>h.lt k hk
theorem info_strs : (Tryz.prog.info? 9).map (fun i=>(i.zero,i.size,i.bytes))=some (some (.string ⟨#[]⟩),1,16):=by kernel_rfl
theorem StrsAt.src {w:World}{v:Value}{l:List ByteArray}(h:StrsAt w v l) : SrcAt w 1 v l.length (l.map strV):=by
 refine⟨by rw[List.length_map,Nat.mul_one], ?_⟩
 rcases h with⟨rfl,a,c,rfl⟩ | ⟨b,off,cap,rfl,h2,h3,h4,h5⟩
 ·cases a with
  | none=>exact Or.inl ⟨c,rfl,rfl⟩
  | some a=>exact Or.inr ⟨a,c,rfl,fun j u hu=>by cases hu⟩
 ·refine Or.inr ⟨⟨b,off,none⟩,cap,rfl,fun j u hu=>?_⟩
  rw[List.getElem?_map] at hu
  obtain⟨x,hx,rfl⟩:=Option.map_eq_some_iff.1 hu
  have ea:(⟨b,off,none⟩:Addr).add j=⟨b,off+j,none⟩:=by unfold Addr.add;split<;>simp_all
  rw[ea]
  exact h5 j x hx
theorem str_one (w:World)(x:ByteArray) : StrsAt (w.alloc (.cells #[Value.string x] 9)) (.slice (some ⟨w.heap.size,0,none⟩) 1 1) [x]:=by
 refine Or.inr ⟨w.heap.size,0,1,rfl,Nat.le_refl _,by unfold maxLen;omega,by simp,fun i y hy=>?_⟩
 match i,hy with
 | 0,hy =>
   obtain rfl:x=y:=by simpa using hy
   simp
theorem strs_append {w:World}{base:Nat}{vs vx:Value}{l m:List ByteArray}(hown:SRow w base vs l)(hsrc:StrsAt w vx m)(hl:l.length+m.length≤1000000)(hb:base≤w.heap.size)(ty:TypeId) :
  ∃ A c w',(Builtin.append_ #[61,61] ty #[vs,vx]).run Tryz.prog w = .ok (.slice A (l.length+m.length) c) w'∧SRow w' base (.slice A (l.length+m.length) c) (l++m)∧w.grownBy w' vs.ownBlock∧((Value.slice A (l.length+m.length) c).ownBlock=vs.ownBlock∨(Value.slice A (l.length+m.length) c).ownBlock=some w.heap.size):=by
 obtain⟨i0,hi,hz0,hz1,hz2⟩:=info_parts info_strs
 obtain⟨v',w',e1,e2,e3,e4⟩:=run_append_src (P:=Tryz.prog) w base 61 9 i0 _ 1 16 ty Tryz.underlying61 hi hz0 hz1 hz2 rfl (by decide) vs l.length (l.map strV) hown vx m.length (m.map strV) hsrc.src strV_one (by unfold maxLen;omega) (by omega) hb
 obtain⟨A,c,rfl,-,-,-⟩:=own_form e2
 refine⟨A,c,w',e1, ?_,e3,e4⟩
 unfold SRow
 rw[List.map_append,List.length_append]
 exact e2
theorem sgrown_below {B:Nat}{w w':World}{v:Value}(h:w.grownBy w' v.ownBlock)(hB:B≤w.heap.size)(hv:∀ k,v.ownBlock=some k→B≤k) : Below B w w':=⟨h.os,h.tape,h.output,h.size,fun k hk=>h.block k (by omega) (fun e=>by have:=hv k e.symm;omega)⟩
theorem strs_more {w:World}{base n c:Nat}{A:Option Addr}{l:List ByteArray}{x:ByteArray}(hrow:SRow w base (.slice A n c) l)(hn:n=l.length)(hl:n+1≤1000000)(hb:base≤w.heap.size)(ty:TypeId) :
  ∃ w' u,(Builtin.append_ #[61,61] ty #[.slice A n c,.slice (some ⟨w.heap.size,0,none⟩) 1 1]).run Tryz.prog (w.alloc (.cells #[.string x] 9)) = .ok u w' ∧
   (∃ A' c',u = .slice A' (n+1) c'∧SRow w' base (.slice A' (n+1) c') (l++[x]))∧Below base w w':=by
 subst hn
 have ha:=(Below.refl w.heap.size w).alloc (Nat.le_refl _) (.cells #[.string x] 9)
 have h1:=SRow.below hrow ha (Nat.le_refl _)
 obtain⟨A',c',w',e1,e2,e3,-⟩:=strs_append h1 (str_one w x) (by simpa using hl) (by simp;omega) ty
 exact⟨w',_,e1,⟨A',c',rfl,e2⟩,((Below.refl base w).alloc hb _).trans (sgrown_below e3 (by simp;omega) (fun k hk=>(SRow.block h1 k hk).1))⟩
end
section
open Go.RowKit Go.Shelf
def entOf (x:PAct) : EntS:=⟨x.e.h%5*999,x.e.v,x.e.p⟩
theorem entOf_ok {x:PAct}(h:PActOk x) : EntOk (entOf x):=⟨by show x.e.h%5*999<_;omega,h.e.v0,h.e.v1,h.e.p0,h.e.p1⟩
set_option maxHeartbeats 1000000 in
theorem entry_any (x:PAct)(w:World)(hx:PActOk x) : Calls Tryz.prog 17 #[pactB x] w fun e w'=>e = .returned (entB (entOf x))∧Below w.heap.size w w':=by
 obtain⟨k,⟨h,v,p⟩,a,b⟩:=x
 have hh:h<18446744073709551616:=hx.e.h
 obtain⟨m,hm⟩:∃ m,m=h%5:=⟨_,rfl⟩
 have hm5:m<5:=by omega
 have r1:(h:Int).tmod 5=(m:Int):=by rw[hm];rfl
 have r2:(h:Int)%5=(m:Int):=by rw[hm];rfl
 have hz:IntKind.u64.wrap ((m:Int)*999)=(m:Int)*999:=IntWalk.u64_in _ ⟨by omega,by omega⟩
 have he:entB (entOf ⟨k,⟨h,v,p⟩,a,b⟩) = .agg #[.int .u64 ((m:Int)*999),.int .i64 v,.int .i64 p]:=by
  unfold entOf
  show Value.agg #[.int .u64 (((h%5*999:Nat)):Int),_,_]=_
  rw[← hm,Int.natCast_mul]
  rfl
 rw[he]
 clear he hx hh hm
 go_enter Tryz.func17,Tryz.ntmps17
 go_wp2
 exact bodyPost_ret (v:=.agg #[.int .u64 ((m:Int)*999),.int .i64 v,.int .i64 p]) (by simp[results,Tryz.results17,go_sem]) rfl ⟨rfl,(((Below.refl w.heap.size w).alloc (Nat.le_refl _) _).alloc (by simp) _).alloc (by simp;omega) _⟩
theorem ent_fld (h:Nat)(v p:Int)(w:World) : (Instr.field 44 (.agg #[.int .u64 (h:Nat),.int .i64 v,.int .i64 p]) 0).run Tryz.prog w = .ok (.int .u64 (h:Nat)) w:=by
 rfl
theorem entry_some {xk xh:Nat}{xv xp xa xb:Int}(h:PActOk ⟨xk,⟨xh,xv,xp⟩,xa,xb⟩) : ∃ eh:Nat,eh<18446744073709551616∧EntOk ⟨eh,xv,xp⟩∧(Lit.int .i64 xa).wf=true∧(Lit.int .i64 xb).wf=true ∧
  ∀ W,Calls Tryz.prog 17 #[.agg #[.int .u8 (xk:Nat),.int .u64 (xh:Nat),.int .i64 xv,.int .i64 xp,.int .i64 xa,.int .i64 xb]] W fun e w'=>e = .returned (.agg #[.int .u64 (eh:Nat),.int .i64 xv,.int .i64 xp])∧Below W.heap.size W w':=by
 have h1:=entOf_ok h
 have h2:=fun W=>entry_any ⟨xk,⟨xh,xv,xp⟩,xa,xb⟩ W h
 have e:entOf ⟨xk,⟨xh,xv,xp⟩,xa,xb⟩=⟨(entOf ⟨xk,⟨xh,xv,xp⟩,xa,xb⟩).h,xv,xp⟩:=rfl
 rw[e] at h1 h2
 generalize (entOf ⟨xk,⟨xh,xv,xp⟩,xa,xb⟩).h=eh at *
 exact⟨eh,h1.h,h1,WalkArith.wf_i64 ⟨h.a0,h.a1⟩,WalkArith.wf_i64 ⟨h.b0,h.b1⟩,h2⟩
end
end Go.Proofs.YtcpfkaehefcakaaGreat
