/- ZfPtFlt, ZfPtFilter -/
import Derived.Test.YtokbfellcadkpaaGreatPf23
import Derived.Test.YtokbfellcadkpaaGreatPf33
import Derived.Test.YtokbfellcadkpaaGreatPf31
import Derived.Test.YtokbfellcadkpaaGreatPf40
import Derived.Test.YtokbfellcadkpaaGreatPf03
import Derived.Test.YtokbfellcadkpaaGreatPf01
import Derived.Test.YtokbfellcadkpaaGreatPf14
import Derived.Lib.OwnBridge
namespace Go.Proofs.YtokbfellcadkpaaGreat
set_option maxRecDepth 100000
set_option linter.unusedVariables false
section
open Go.RowKit
abbrev WordRow (w:World)(base:Nat)(v:Value)(l:List Nat) : Prop:=w.ownsRow base 23 1 v l.length (l.map u64V)
theorem info_word : (Tryz.prog.info? 23).map (fun i=>(i.zero,i.size,i.bytes))=some (some (.int .u64 0),1,8):=by kernel_rfl
theorem WordRow.below {w w':World}{base B:Nat}{v:Value}{l:List Nat}(h:WordRow w base v l)(hb:Below B w w')(hB:w.heap.size≤B) : WordRow w' base v l:=by
 refine⟨h.1, ?_⟩;rcases h.2 with h0 | ⟨g,cap,cur,hv,hg,hh,r⟩
 ·exact Or.inl h0
 ·obtain⟨hlt,_⟩:=Array.getElem?_eq_some_iff.1 hh;exact Or.inr ⟨g,cap,cur,hv,hg,(hb.block g (Nat.lt_of_lt_of_le hlt hB)).trans hh,r⟩
theorem WordRow.own {w:World}{base:Nat}{v:Value}{l:List Nat}(h:WordRow w base v l) : ∀ k,v.ownBlock=some k→base≤k:=fun k hk=>(h.lt k hk).1
theorem word_src (w:World)(x:Nat) : SrcAt (w.alloc (.cells #[.int .u64 (x:Nat)] 23)) 1 (.slice (some ⟨w.heap.size,0,none⟩) 1 1) 1 [u64V x] :=
 ⟨rfl,Or.inr ⟨_,1,rfl,fun j u hj=>by
  match j,hj with
  | 0,hj =>
    obtain rfl:u64V x=u:=by simpa using hj
    have:=(Blok.new w 23 #[.int .u64 (x:Nat)]).cell 0;exact this⟩⟩
theorem word_append (w:World)(base:Nat)(v:Value)(l:List Nat)(x:Nat)(ty:TypeId)(hown:WordRow w base v l)(hl:l.length≤10000)(hb:base≤w.heap.size) :
  ∃ A c w',(Builtin.append_ #[247,247] ty #[v,.slice (some ⟨w.heap.size,0,none⟩) 1 1]).run Tryz.prog (w.alloc (.cells #[.int .u64 (x:Nat)] 23)) = .ok (.slice A (l.length+1) c) w'∧WordRow w' base (.slice A (l.length+1) c) (l++[x])∧Below base w w':=by
 obtain⟨i0,hi,hz0,hz1,hz2⟩:=info_parts info_word;have hB:=(Below.refl w.heap.size w).alloc (Nat.le_refl _) (.cells #[.int .u64 (x:Nat)] 23);have h1:=WordRow.below hown hB (Nat.le_refl _);obtain⟨v',w',e1,e2,e3,e4⟩:=run_append_src (P:=Tryz.prog) _ base 247 23 i0 _ 1 8 ty Tryz.underlying247 hi hz0 hz1 hz2 rfl (by decide) v l.length (l.map u64V) h1 _ 1 [u64V x] (word_src w x) (fun u hu=>by rw[List.mem_singleton.1 hu];rfl) (by unfold maxLen;omega) (by omega) (by simp;omega);obtain⟨A,c,rfl,-,-,-⟩:=own_form e2;refine⟨A,c,w',e1,by unfold WordRow;rw[List.length_append,List.map_append];exact e2,(hB.mono hb).grown e3 (by simp;omega) (WordRow.own h1)⟩
theorem u64_one : OneCell u64V:=fun x=>rfl
theorem u64_eql : EqlAt Tryz.prog 23 u64V (fun x y=>decide (x=y)):=⟨fun x y w=>by
 have h:=(EqlAt.int Tryz.prog 23 .u64).1 (x:Int) (y:Int) w;unfold u64V;rw[h];by_cases e:x=y
 ·subst e;simp
 ·have:¬ (x:Int)=(y:Int):=by omega
  simp[e,this],fun op a b x y w=>(EqlAt.int Tryz.prog 23 .u64).2 op a b (x:Int) (y:Int) w⟩
theorem u64_neq : NeqAt Tryz.prog 23 u64V (fun x y=>decide (x=y)):=⟨fun x y w=>by
 have h:=(NeqAt.int Tryz.prog 23 .u64).1 (x:Int) (y:Int) w;unfold u64V;rw[h];by_cases e:x=y
 ·subst e;simp
 ·have:¬ (x:Int)=(y:Int):=by omega
  simp[e,this],fun op a b x y w=>(NeqAt.int Tryz.prog 23 .u64).2 op a b (x:Int) (y:Int) w⟩
theorem comp_any (w:World)(base:Nat)(v:Value)(l:List Nat)(hown:WordRow w base v l)(hl:l.length≤100000)(hb:base≤w.heap.size) :
  Calls Tryz.prog 201 #[v] w fun e w'=>∃ A c,e = .returned (.slice A (Lib.compactUpTo l.toArray l.toArray.size).length c)∧WordRow w' base (.slice A (Lib.compactUpTo l.toArray l.toArray.size).length c) (Lib.compactUpTo l.toArray l.toArray.size)∧Below base w w':=by
 by_cases hv:v = .slice none 0 0
 ·subst hv
  have hl0:l=[]:=by
   rcases hown.2 with⟨-,e⟩ | ⟨g,cap,cur,e,-⟩
   ·exact List.length_eq_zero_iff.1 e
   ·cases e
  subst hl0;have h0:(Lib.compactUpTo ([]:List Nat).toArray ([]:List Nat).toArray.size)=[]:=rfl;rw[h0];go_enter Tryz.func201,Tryz.ntmps201;go_wp2;go_ret;exact⟨none,0,rfl,hown,Below.refl _ _⟩
 ·obtain⟨g,cap,rfl,hg,hlt,hn,hm,-,hH⟩:=Lib.holds_of_ownsRow hown hv
  have hlen:(Lib.compactUpTo l.toArray l.toArray.size).length≤l.length:=by
   unfold Lib.compactUpTo;rw[List.length_map];refine Nat.le_trans (List.length_filter_le _ _) ?_;rw[List.length_range,List.size_toArray];exact Nat.le_refl _
  have h:=AnyE.slices_Compact Tryz.comp u64V u64_one u64_eql u64_neq 0 (fun w=>Tryz.zeroValue23 w) g 0 cap l.toArray w hH (by rw[List.size_toArray];omega) (by rw[List.size_toArray];exact hn);rw[List.size_toArray] at h hlen ⊢;refine h.mono ?_;rintro e w' ⟨rfl,q,rfl⟩;have h2:=Lib.ownsRow_putRow (q:=q) (k:=(Lib.compactUpTo l.toArray l.length).length) (ys:=Lib.compactUpTo l.toArray l.length++List.replicate (l.length-(Lib.compactUpTo l.toArray l.length).length) 0) hown (by rw[List.length_append,List.length_replicate];omega) hlen;rw[List.take_left] at h2;exact⟨_,_,rfl,h2,Lib.below_putRow (Below.refl _ _) hg⟩
set_option maxHeartbeats 2000000 in
theorem filter_run (v:Value)(l:List EntS)(r:Nat)(w:World)(hv:EntsIn w v l)(hl:l.length≤1000)(hok:∀ x∈l,EntOk x)(hr:r<18446744073709551616) :
  Calls Tryz.prog 161 #[v,.float .f64 r] w fun e w'=>∃ t,e = .returned (.string t)∧FltOf l r t∧Below w.heap.size w w':=by
 obtain⟨A,off,cap,rfl,-,-⟩:=hv.form;have HV:=Lib.hid hv;have HOK:=Lib.hid hok;have HP:=Lib.hid fun W=>probes_any r W hr
 obtain⟨m,hm⟩:∃ m,l.length=m:=⟨_,rfl⟩
 have HM:=Lib.hid hm;rw[hm] at hl HV ⊢;clear hv hok hr hm;go_enter Tryz.func161,Tryz.ntmps161;go_wp2;go_loopw [5,12] (fun sl i wr=>∃ (k:Nat) (sv:Value),k≤m∧i = .int .i64 k∧sv=sl∧WordRow wr w.heap.size sv ((l.take k).map EntS.h)∧Below w.heap.size w wr) (fun _ i _=>m-(intOf i).toNat)
 case atStart=>exact⟨0,_,Nat.zero_le _,rfl,rfl,World.ownsRow_nil _ _ _ _,Below.refl _ _⟩
 case round =>
  obtain⟨k,sv,hk,rfl,rfl,hrow,hbel⟩:=hrel;have HBEL:=Lib.hid hbel;by_cases hlt:k<m
  ·obtain⟨x,hx⟩:∃ x,l[k]? = some x:=⟨_,List.getElem?_eq_getElem (by rw[HM.out];exact hlt)⟩
   have hV:EntsIn wr (.slice A l.length cap) l:=by rw[HM.out];exact HV.out.below hbel (Nat.le_refl _)
   obtain⟨bb,of,rfl,-,hbl,d0,d1,d2⟩:=ent_cell hV hx;have s1:(k:Int)<(m:Int):=by omega
   have s3:(k:Int)≤1000:=by omega
   have hB:=(Below.refl wr.heap.size wr).alloc (Nat.le_refl _) (.cells #[.int .u64 (x.h:Nat),.int .i64 x.v,.int .i64 x.p] 63);have hlen:((l.take k).map EntS.h).length≤10000:=by rw[List.length_map,List.length_take];omega
   obtain⟨A2,c2,w3,ha,hrow3,hb3⟩:=word_append (wr.alloc (.cells #[.int .u64 (x.h:Nat),.int .i64 x.v,.int .i64 x.p] 63)) w.heap.size sv _ x.h 247 (WordRow.below hrow hB (Nat.le_refl _)) hlen (by have:=hbel.size;simp;omega);have e1:(l.take k).map EntS.h++[x.h]=(l.take (k+1)).map EntS.h:=by rw[ent_take l k x hx,List.map_append];rfl
   rw[e1] at hrow3;obtain⟨len,hlen2⟩:∃ len,((l.take k).map EntS.h).length+1=len:=⟨_,rfl⟩
   rw[hlen2] at hrow3 ha;have HR3:=Lib.hid hrow3;have HB3:=Lib.hid ((hbel.alloc hbel.size (.cells #[.int .u64 (x.h:Nat),.int .i64 x.v,.int .i64 x.p] 63)).trans hb3);have E0:EnAt (wr.alloc (.cells #[.int .u64 (x.h:Nat),.int .i64 x.v,.int .i64 x.p] 63)) wr.heap.size x.h x.v x.p:=Blok.new _ _ _;have k0:=E0.cell 0;obtain⟨w1,hw1⟩:∃ w1,wr.alloc (.cells #[.int .u64 (x.h:Nat),.int .i64 x.v,.int .i64 x.p] 63)=w1:=⟨_,rfl⟩
   rw[hw1] at ha k0;have HA:=Lib.hid ha;clear ha hrow3 hb3 e1 hB hV hx hlen hlen2 E0 hrow hbel;obtain⟨xh,xv,xp⟩:=x;simp only at d0 d1 d2 hw1 k0 HA;go_wp2_with (first | (at_builtin;refine wpList_append_two rfl _ _ rfl rfl rfl HA.out ?_) | fail);go_roundw
   case rel=>exact⟨k+1,_,by omega,by go_num,rfl,HR3.out,HB3.out⟩
   case measure=>simp[intOf];omega
  ·obtain rfl:k=m:=by omega
   have s1:¬ (k:Int)<(k:Int):=by omega
   rw[← HM.out,List.take_length] at hrow;have hlen:(l.map EntS.h).length≤1000:=by rw[List.length_map,HM.out];exact hl
   have HC:=Lib.hid (comp_any wr w.heap.size sv (l.map EntS.h) hrow (by omega) hbel.size);have hhl:=hashP_length l;have hpl:(hashP l).length≤1000:=by have:=HM.out;omega
   have HW:=Lib.hid (hashP_words HOK.out);have HFF:=Lib.hid (show Lib.compactUpTo (l.map EntS.h).toArray (l.map EntS.h).toArray.size=hashP l from rfl);rw[HFF.out] at HC;clear hrow hlen hhl;go_wp2_with fail;refine HC.out.mono ?_;rintro e w1 ⟨A2,c2,rfl,h1,b1⟩;have HR1:=Lib.hid h1;have HB1:=Lib.hid (hbel.trans b1);clear h1 b1 hbel HC;go_wp2_with fail;refine(HP.out _).mono ?_;rintro e w2 ⟨p,rfl,hp,rfl⟩;have hpr:=probes_range hp;have hpg:=pagesS_le (n:=(hashP l).length) (k:=(p:Nat)) (by omega);have HPg:=Lib.hid fun W=>pages_any ((hashP l).length:Nat) (p:Nat) W
   have HMk:=Lib.hid fun W (b:Int) (wb:(Lit.int .i64 b).wf=true) (hW:RowOf u64V W (.slice A2 (hashP l).length c2) (hashP l))=>make_any _ _ (p:Nat) b W hW HW.out (by omega) (WalkArith.wf_i64 (by omega)) wb
   obtain⟨b,hb⟩:∃ b:Int,(480*(pagesS (hashP l).length (p:Nat):Nat):Int)=b:=⟨_,rfl⟩
   have HFl:=Lib.hid (show putP (bs (makeL (hashP l) (p:Nat) b)) (p:Nat)=fltP l p by rw[← hb];rfl);have HFo:=Lib.hid (show FltOf l r (fltP l p) from⟨p,hp,rfl⟩);have hwb:(Lit.int .i64 b).wf=true:=WalkArith.wf_i64 (by omega);have hw:IntKind.i64.wrap (480*(pagesS (hashP l).length (p:Nat):Nat):Int)=b:=by rw[hb];exact IntWalk.i64_in _ ⟨by omega,by omega⟩
   have HWB:=Lib.hid hwb;have HMk2:=Lib.hid fun W hW=>HMk.out W b HWB.out hW
   have HPt:=Lib.hid fun(a:ByteArray) W=>pput_any a (p:Nat) W
   have HR2:=Lib.hid (RowOf.of_owns u64V HR1.out);generalize makeL (hashP l) (p:Nat) b=mk at *;generalize pagesS (hashP l).length (p:Nat)=pg at *;clear hp hpr hpg hb hwb HMk HR1 HW HFF hpl;generalize (hashP l).length=hn at *;go_wp2_with fail;refine(HPg.out _).mono ?_;rintro e w3 ⟨rfl,rfl⟩;go_wp2_with fail;refine(HMk2.out _ HR2.out).mono ?_;rintro e w4 ⟨rfl,b4⟩;go_wp2_with fail;refine(HPt.out _ _).mono ?_;rintro e w5 ⟨rfl,b5⟩;have HB5:=Lib.hid ((HB1.out.trans (b4.mono HB1.out.size)).trans (b5.mono (Nat.le_trans HB1.out.size b4.size)));clear b4 b5;go_wp2;go_ret;exact⟨_,by rw[HFl.out];rfl,HFo.out,HB5.out⟩
end
end Go.Proofs.YtokbfellcadkpaaGreat
