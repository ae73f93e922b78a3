/- ZpImSwap, ZpImOrph, ZpImClean, ZpImIs -/
import Derived.Test.YtcpfkaehefcakaaGreatPp27
import Derived.Test.YtcpfkaehefcakaaGreatPp34
import Derived.Test.YtcpfkaehefcakaaGreatPp19
import Derived.Test.YtcpfkaehefcakaaGreatPp18
import Derived.Test.YtcpfkaehefcakaaGreatPp12
import Derived.Deep.LoopGhost
import Derived.WalkMore
import Derived.Test.YtcpfkaehefcakaaGreatPp26
import Derived.Test.YtcpfkaehefcakaaGreatPp06
namespace Go.Proofs.YtcpfkaehefcakaaGreat
open Go.RowKit Go.Shelf
set_option linter.unusedVariables false
set_option maxRecDepth 100000
theorem swap_del {D:DiskS}{m:ManS}(hm:MayM m)(h:(deleteS D newN).1≠0)(h4:(deleteS D newN).1≠4) : swapP D m=deleteS D newN:=by
 unfold swapP
 rw[if_neg (by simpa using hm)]
 by_cases hd:D.down=true
 ·rw[if_pos hd]
  unfold deleteS
  rw[if_pos hd]
 ·rw[if_neg hd,if_pos ⟨h,h4⟩]
theorem swap_go {D:DiskS}{m:ManS}(hm:MayM m)(h:(deleteS D newN).1=0∨(deleteS D newN).1=4) :
  swapP D m=if ((deleteS D newN).2.cap:Int)-(usedS (deleteS D newN).2.l:Nat)-((mfB m).size:Nat)<6000 then(60,(deleteS D newN).2) else imLayP (deleteS D newN).2 (mfB m):=by
 have hd:¬ D.down=true:=fun hd=>by
  have e:deleteS D newN=(61,D):=by unfold deleteS;rw[if_pos hd]
  rw[e] at h
  simp at h
 unfold swapP imLayP
 rw[if_neg (by simpa using hm),if_neg hd,if_neg (by omega)]
theorem imswap_nil (n c:Int)(d:Nat)(A:Option Addr)(k cp:Nat)(w:World) : Calls Tryz.prog 154 #[.pointer none,manV n c d (.slice A k cp)] w fun e w'=>e = .returned (err 1)∧Below w.heap.size w w':=by
 have HU:=Lib.hid (fun W=>imup_nil W)
 have hb:=(Below.refl w.heap.size w).alloc (Nat.le_refl _) (manO n c d (.slice A k cp))
 have HB:=Lib.hid hb
 unfold manV
 clear hb
 go_enter Tryz.func154,Tryz.ntmps154
 go_wp2_with fail
 refine(HU.out _).mono ?_
 rintro e w1 ⟨rfl,rfl⟩
 go_wp2
 go_ret
 exact⟨rfl,HB.out⟩
section
variable {At : Lies} (api : DiskApi At) {w0 w : World} {gd : Nat} {D : DiskS} {E : List Nat}
include api
set_option maxHeartbeats 1000000 in
theorem imswap_run (n c:Int)(d:Nat)(A:Option Addr)(k cp:Nat)(R:LvL)(h:DS At w0 gd D E w)(ok:WfP D)(hH:Holds w0 E w (.slice A k cp) R)(hk:k=R.length)(hl:R.flatten.length≤100000)(hL:R.length≤100000)(hd:d<18446744073709551616) :
  Calls Tryz.prog 154 #[ptr gd,manV n c d (.slice A k cp)] w (DEnd At w0 gd (err (swapP D ⟨n,c,d,R⟩).1) (swapP D ⟨n,c,d,R⟩).2 E w):=by
 have hHas:=hH.now h
 have hb:=(Below.refl w.heap.size w).alloc (Nat.le_refl _) (manO n c d (.slice A k cp))
 have bm:=Blok.new w 38 #[.int .i64 n,.int .i64 c,.int .u64 (d:Nat),.slice A k cp]
 have h0:=h.box api (manO n c d (.slice A k cp))
 have hHas0:=hHas.below hb (Nat.le_refl _)
 have K0:=Kept.of_below hb h.lt
 obtain⟨g,hgg⟩:∃ g,w.heap.size=g:=⟨_,rfl⟩
 rw[hgg] at bm
 obtain⟨wa,hwa⟩:∃ wa,w.alloc (manO n c d (.slice A k cp))=wa:=⟨_,rfl⟩
 rw[hwa] at bm h0 hHas0 K0
 have k0:=imup_run api h0 ok
 have HP:=Lib.hid (mput_any n c d A k cp R wa hHas0 hk hl hL hd)
 have m0:wa.cell? ⟨g,0,none⟩=some (.int .i64 n):=bm.cell 0
 have m1:wa.cell? ⟨g,1,none⟩=some (.int .i64 c):=bm.cell 1
 have m2:wa.cell? ⟨g,2,none⟩=some (.int .u64 (d:Nat)):=bm.cell 2
 have m3:wa.cell? ⟨g,3,none⟩=some (.slice A k cp):=bm.cell 3
 unfold MfPutEnd at HP
 unfold manV at HP ⊢
 have hUP:∃ u:Nat,(if D.down=true then 61 else 0)=u∧((u:Int)==1)=false:=by
  cases D.down
  ·exact⟨0,rfl,rfl⟩
  ·exact⟨61,rfl,rfl⟩
 obtain⟨u,hu,tu⟩:=hUP
 rw[hu] at k0
 have HU:=Lib.hid k0
 have HK0:=Lib.hid (And.intro h0 K0)
 by_cases hm:MayM ⟨n,c,d,R⟩
 case neg =>
  obtain⟨r1,r2⟩:=mf_no hm
  rw[r1,r2] at HP
  rw[swap_bad hm]
  clear hHas hb bm h0 hHas0 K0 h ok hH hk hl hL hd hm r1 r2 hu k0
  go_enter Tryz.func154,Tryz.ntmps154
  go_wp2_with fail
  refine HU.out.mono ?_
  rintro e w1 ⟨rfl,rfl⟩
  go_wp2_with fail
  refine HP.out.mono ?_
  rintro e w2 ⟨rfl,b2⟩
  have H2:=Lib.hid (And.intro (HK0.out.1.below api b2) (HK0.out.2.trans (Kept.of_below b2 HK0.out.1.lt)))
  clear b2
  go_wp2
  go_ret
  exact⟨rfl,H2.out.1,H2.out.2⟩
 obtain⟨r1,r2⟩:=mf_yes hm
 rw[r1,r2] at HP
 have hsz:=mfB_small hm
 have o1:=wp_delete ok newN
 have k2:∀ W,DS At w0 gd D E W→Calls Tryz.prog 72 #[ptr gd,.string ⟨#[110,101,119]⟩] W (DEnd At w0 gd (err (deleteS D newN).1) (deleteS D newN).2 E W):=fun W hW=>hW.disk api (fun F hF=>api.delete newN hF ok.ok (by decide))
 by_cases hz:(deleteS D newN).1≠0∧(deleteS D newN).1≠4
 ·rw[swap_del hm hz.1 hz.2]
  have t1:(((deleteS D newN).1:Int) != 0)=true:=by simp;omega
  have t2:(((deleteS D newN).1:Int) != 4)=true:=by simp;omega
  have K2:=Lib.hid k2
  generalize deleteS D newN=X at *
  generalize X.1=y at *
  generalize mfB ⟨n,c,d,R⟩=s at *
  clear hHas hb bm h0 hHas0 K0 h ok hH hk hl hL hd hm r1 r2 hu k0 k2 hz o1
  go_enter Tryz.func154,Tryz.ntmps154
  go_wp2_with fail
  refine HU.out.mono ?_
  rintro e w1 ⟨rfl,rfl⟩
  go_wp2_with fail
  refine HP.out.mono ?_
  rintro e w2 ⟨rfl,b2⟩
  have H2:=Lib.hid (And.intro (HK0.out.1.below api b2) (HK0.out.2.trans (Kept.of_below b2 HK0.out.1.lt)))
  clear b2
  go_wp2_with fail
  refine(K2.out _ H2.out.1).mono ?_
  rintro e w3 ⟨rfl,q1,q2⟩
  have H3:=Lib.hid (And.intro q1 (H2.out.2.trans q2))
  clear q1 q2
  go_wp2
  go_ret
  exact⟨rfl,H3.out.1,H3.out.2⟩
 have hz2:(deleteS D newN).1=0∨(deleteS D newN).1=4:=by omega
 have tz:((((deleteS D newN).1:Int) != 0)=false)∨((((deleteS D newN).1:Int) != 0)=true∧(((deleteS D newN).1:Int) != 4)=false):=by
  rcases hz2 with e | e
  ·exact Or.inl (by rw[e];rfl)
  ·exact Or.inr ⟨by rw[e];rfl,by rw[e];rfl⟩
 rw[swap_go hm hz2]
 have ok1:=wp_delete ok newN
 have hcap:=ok1.cap
 have hus:=ok1.used
 generalize deleteS D newN=X at *
 generalize mfB ⟨n,c,d,R⟩=s at *
 have k3:∀ W,DS At w0 gd X.2 E W→Calls Tryz.prog 152 #[ptr gd] W (DEnd At w0 gd (.int .i64 ((X.2.cap:Int)-(usedS X.2.l:Nat))) X.2 E W):=fun W hW=>hW.disk api (fun F hF=>api.free hF ok1.ok)
 have k4:∀ W,DS At w0 gd X.2 E W→Calls Tryz.prog 195 #[ptr gd,.string s] W (DEnd At w0 gd (err (imLayP X.2 s).1) (imLayP X.2 s).2 E W):=fun W hW=>imlay_run api hW ok1 s (by omega)
 obtain⟨y,hy⟩:∃ y:Int,(X.2.cap:Int)-(usedS X.2.l:Nat)=y:=⟨_,rfl⟩
 have y1:y≤1048576:=by omega
 have y2:0≤y:=by omega
 have q1:IntKind.i64.wrap (y-(s.size:Int))=y-(s.size:Int):=IntWalk.i64_in _ ⟨by omega,by omega⟩
 rw[hy] at k3 ⊢
 have K2:=Lib.hid k2
 have K3:=Lib.hid k3
 have K4:=Lib.hid k4
 generalize imLayP X.2 s=Y at *
 generalize X.2=D1 at *
 generalize X.1=x at *
 clear hHas hb bm h0 hHas0 K0 h ok hH hk hl hL hd hm r1 r2 hu k0 k2 hz o1 k3 k4 hz2 ok1 hcap hus hy
 by_cases hr:y-(s.size:Int)<6000
 ·rw[if_pos hr]
  rcases tz with t | ⟨t,t'⟩
  all_goals
   go_enter Tryz.func154,Tryz.ntmps154
   go_wp2_with fail
   refine HU.out.mono ?_
   rintro e w1 ⟨rfl,rfl⟩
   go_wp2_with fail
   refine HP.out.mono ?_
   rintro e w2 ⟨rfl,b2⟩
   have H2:=Lib.hid (And.intro (HK0.out.1.below api b2) (HK0.out.2.trans (Kept.of_below b2 HK0.out.1.lt)))
   clear b2
   go_wp2_with fail
   refine(K2.out _ H2.out.1).mono ?_
   rintro e w3 ⟨rfl,q1',q2'⟩
   have H3:=Lib.hid (And.intro q1' (H2.out.2.trans q2'))
   clear q1' q2'
   go_wp2_with fail
   refine(K3.out _ H3.out.1).mono ?_
   rintro e w4 ⟨rfl,q1',q2'⟩
   have H4:=Lib.hid (And.intro q1' (H3.out.2.trans q2'))
   clear q1' q2'
   go_wp2
   go_ret
   exact⟨rfl,H4.out.1,H4.out.2⟩
 ·rw[if_neg hr]
  rcases tz with t | ⟨t,t'⟩
  all_goals
   go_enter Tryz.func154,Tryz.ntmps154
   go_wp2_with fail
   refine HU.out.mono ?_
   rintro e w1 ⟨rfl,rfl⟩
   go_wp2_with fail
   refine HP.out.mono ?_
   rintro e w2 ⟨rfl,b2⟩
   have H2:=Lib.hid (And.intro (HK0.out.1.below api b2) (HK0.out.2.trans (Kept.of_below b2 HK0.out.1.lt)))
   clear b2
   go_wp2_with fail
   refine(K2.out _ H2.out.1).mono ?_
   rintro e w3 ⟨rfl,q1',q2'⟩
   have H3:=Lib.hid (And.intro q1' (H2.out.2.trans q2'))
   clear q1' q2'
   go_wp2_with fail
   refine(K3.out _ H3.out.1).mono ?_
   rintro e w4 ⟨rfl,q1',q2'⟩
   have H4:=Lib.hid (And.intro q1' (H3.out.2.trans q2'))
   clear q1' q2'
   go_wp2_with fail
   refine(K4.out _ H4.out.1).mono ?_
   rintro e w5 ⟨rfl,q1',q2'⟩
   have H5:=Lib.hid (And.intro q1' (H4.out.2.trans q2'))
   clear q1' q2'
   go_wp2
   go_ret
   exact⟨rfl,H5.out.1,H5.out.2⟩
end
end Go.Proofs.YtcpfkaehefcakaaGreat
namespace Go.Proofs.YtcpfkaehefcakaaGreat
open Go.RowKit Go.Shelf
set_option linter.unusedVariables false
set_option maxRecDepth 100000
section
variable {At : Lies} (api : DiskApi At) (nap : NamesApi) {w0 w : World} {gd : Nat} {D : DiskS} {E : List Nat}
theorem imorph_nil (n c:Int)(d:Nat)(A:Option Addr)(k cp:Nat)(R:LvL)(w:World)(h:LvsHas w (.slice A k cp) R)(hl:R.flatten.length≤100000)(hL:R.length≤100000) :
  Calls Tryz.prog 25 #[.pointer none,manV n c d (.slice A k cp)] w fun e w'=>(∃ A' c',e = .returned (.slice A' 0 c'))∧Below w.heap.size w w':=by
 have hb:=(Below.refl w.heap.size w).alloc (Nat.le_refl _) (manO n c d (.slice A k cp))
 have bm:=Blok.new w 38 #[.int .i64 n,.int .i64 c,.int .u64 (d:Nat),.slice A k cp]
 have h0:=h.below hb (Nat.le_refl _)
 obtain⟨g,hgg⟩:∃ g,w.heap.size=g:=⟨_,rfl⟩
 rw[hgg] at bm
 obtain⟨wa,hwa⟩:∃ wa,w.alloc (manO n c d (.slice A k cp))=wa:=⟨_,rfl⟩
 rw[hwa] at bm h0 hb
 have HA:=Lib.hid (lall_any _ R wa h0 hl hL)
 have HN:=Lib.hid (fun W=>names_nil (none_nil W))
 unfold Says at HN
 unfold IntsOut at HA
 have HB:=Lib.hid hb
 have m3:wa.cell? ⟨g,3,none⟩=some (.slice A k cp):=bm.cell 3
 unfold manV
 clear h h0 hb bm hl hL
 generalize R.flatten=fl at *
 generalize fl.length=N at *
 go_enter Tryz.func25,Tryz.ntmps25
 go_wp2_with fail
 refine HA.out.mono ?_
 rintro e w1 ⟨A3,c3,rfl,-,b1⟩
 have HB1:=Lib.hid (bj HB.out b1)
 clear b1
 go_wp2_with fail
 refine(HN.out _).mono ?_
 rintro e w2 ⟨rfl,rfl⟩
 go_wp2
 go_loopg [6,15] 0 (fun g u i wr=>i = .int .i64 0∧u = .slice none 0 0∧Below w.heap.size w wr)
 case atStart=>exact⟨rfl,rfl,HB1.out⟩
 case round =>
  obtain⟨rfl,rfl,hb⟩:=hrel
  have HBZ:=Lib.hid hb
  clear hb
  go_wp2
  go_ret
  exact⟨⟨_,_,rfl⟩,HBZ.out⟩
include api nap
set_option maxHeartbeats 1000000 in
theorem imorph_run (n c:Int)(d:Nat)(A:Option Addr)(k cp:Nat)(R:LvL)(h:DS At w0 gd D E w)(ok:WfP D)(hH:Holds w0 E w (.slice A k cp) R)(hl:R.flatten.length≤100000)(hL:R.length≤100000) :
  Calls Tryz.prog 25 #[ptr gd,manV n c d (.slice A k cp)] w (ImOrphEnd At w0 gd D ⟨n,c,d,R⟩ E w):=by
 have hHas:=hH.now h
 have hb:=(Below.refl w.heap.size w).alloc (Nat.le_refl _) (manO n c d (.slice A k cp))
 have bm:=Blok.new w 38 #[.int .i64 n,.int .i64 c,.int .u64 (d:Nat),.slice A k cp]
 have h0:=h.box api (manO n c d (.slice A k cp))
 have hHas0:=hHas.below hb (Nat.le_refl _)
 have K0:=Kept.of_below hb h.lt
 have hnz:=h.names api
 obtain⟨g,hgg⟩:∃ g,w.heap.size=g:=⟨_,rfl⟩
 rw[hgg] at bm
 obtain⟨wa,hwa⟩:∃ wa,w.alloc (manO n c d (.slice A k cp))=wa:=⟨_,rfl⟩
 rw[hwa] at bm h0 hHas0 K0
 have HA:=Lib.hid (lall_any _ R wa hHas0 hl hL)
 unfold IntsOut at HA
 have m3:wa.cell? ⟨g,3,none⟩=some (.slice A k cp):=bm.cell 3
 have HH0:=Lib.hid (And.intro h0 K0)
 have HOK:=Lib.hid ok
 have hmany:(D.l.map FileS.name).length≤400:=by rw[List.length_map];exact ok.many
 obtain⟨fl,hfl⟩:∃ fl,R.flatten=fl:=⟨_,rfl⟩
 have HFL:=Lib.hid hfl
 rw[hfl] at HA
 have HFZ:=Lib.hid (show fl.length≤100000 by rw[← hfl];exact hl)
 obtain⟨n3,hn3⟩:∃ n3,n3=fl.length:=⟨_,rfl⟩
 have HN3:=Lib.hid hn3
 rw[← hn3] at HA
 obtain⟨NM,hNM⟩:∃ NM,D.l.map FileS.name=NM:=⟨_,rfl⟩
 rw[hNM] at hnz hmany
 have HNM:=Lib.hid hNM
 have HNZ:=Lib.hid hnz
 have HMY:=Lib.hid hmany
 unfold manV
 clear h ok hH hHas hb bm h0 hHas0 K0 hnz hmany hfl hn3 hNM hl hL
 go_enter Tryz.func25,Tryz.ntmps25
 go_wp2_with fail
 refine HA.out.mono ?_
 rintro e w1 ⟨A3,c3,rfl,hrow,b1⟩
 have hd1:=HH0.out.1.more api b1 (B:=ownL (.slice A3 n3 c3)) (fun b hb=>hrow.block b (ownL_mem.1 hb))
 have hi1:IntsIn w1 (.slice A3 n3 c3) fl:=hrow.in_
 have HK1:=Lib.hid (HH0.out.2.trans (Kept.of_below b1 HH0.out.1.lt))
 have HNAMES:=Lib.hid (im_names api hd1 HOK.out)
 have HI1:=Lib.hid hi1
 clear hrow hd1 hi1 b1 HA m3
 go_wp2_with fail
 refine HNAMES.out.mono ?_
 rintro e w2 ⟨v,B,rfl,hs,hd2,hk2,hB⟩
 rw[HNM.out] at hs
 have hi2:=hk2.ints HI1.out (fun b hb=>List.mem_append_left _ hb)
 have HK2:=Lib.hid (HK1.out.trans (hk2.less (fun b hb=>List.mem_append_right _ hb)))
 have HD2:=Lib.hid hd2
 have HI2:=Lib.hid hi2
 obtain⟨S,os,cs,rfl,ms,hc⟩:=hs.cell
 unfold maxLen at ms
 have HC:=Lib.hid (fun W' (hb':Below w2.heap.size w2 W') (i:Nat) (x:ByteArray) (hx:NM[i]? = some x)=>(by
  obtain⟨b,e1,e2⟩:=hc i x hx
  exact⟨b,e1,(hb'.cell (p:=⟨b,os+i,none⟩) (World.block_lt_of_cell? _ _ e2)).trans e2⟩:∃ b,S=some ⟨b,os,none⟩∧W'.cell? ⟨b,os+i,none⟩=some (.string x)))
 obtain⟨N,hN⟩:∃ N,N=NM.length:=⟨_,rfl⟩
 have HN:=Lib.hid hN
 have HN4:=Lib.hid (show N≤400 by rw[hN];exact HMY.out)
 rw[← hN] at ms ⊢
 clear hs hd2 hk2 hB hi2 hc hN HNAMES HI1 HK1 HH0
 go_wp2
 go_loopg [6,15] N (fun g u i wr=>∃ (j:Nat) (A5:Option Addr) (n5 c5:Nat),j+g=N∧i = .int .i64 j∧u = .slice A5 n5 c5∧n5=(orphL (NM.take j) ⟨n,c,d,R⟩).length∧SRow wr w2.heap.size (.slice A5 n5 c5) (orphL (NM.take j) ⟨n,c,d,R⟩)∧Below w2.heap.size w2 wr)
 case atStart=>exact⟨0,none,0,0,by omega,rfl,rfl,rfl,SRow.nil _ _,Below.refl _ _⟩
 case round =>
  obtain⟨j,A5,n5,c5,hjg,rfl,rfl,hn5,hrow,hbx⟩:=hrel
  have HN5:=Lib.hid hn5
  have HROW:=Lib.hid hrow
  have HBX:=Lib.hid hbx
  have HLE:=Lib.hid (show n5≤400 by rw[hn5];exact Nat.le_trans (orphL_len _ _) (by rw[List.length_take];have:=HN4.out;omega))
  clear hrow hbx hn5
  by_cases hjm:j<N
  case neg =>
   obtain rfl:j=N:=by omega
   have t2:decide ((j:Int)<(j:Int))=false:=decide_eq_false (by omega)
   have ht:NM.take j=NM:=by rw[HN.out,List.take_length]
   have HT:=Lib.hid ht
   clear ht
   go_wp2
   go_ret
   have hr:=HROW.out
   rw[HT.out] at hr
   refine⟨.slice A5 n5 c5,rfl, ?_, ?_, ?_⟩
   ·rw[HNM.out]
    exact hr.in_
   ·exact(HD2.out.more api HBX.out (B:=ownL (.slice A5 n5 c5)) (fun b hb=>hr.block b (ownL_mem.1 hb))).less (fun b hb=>(List.mem_append.1 hb).elim (List.mem_append_left _) (fun hb=>List.mem_append_right _ (List.mem_append_right _ (List.mem_append_right _ hb))))
   ·exact HK2.out.trans (Kept.of_below HBX.out (fun b hb=>HD2.out.lt b (List.mem_append_right _ (List.mem_append_right _ hb))))
  have t2:decide ((j:Int)<(N:Int))=true:=decide_eq_true (by omega)
  have t2':(j:Int)<(N:Int):=by omega
  obtain⟨x,hx⟩:∃ x,NM[j]? = some x:=by
   rw[HN.out] at hjm
   exact⟨NM[j],List.getElem?_eq_getElem hjm⟩
  have hxz:=HNZ.out x (List.mem_of_getElem? hx)
  obtain⟨b,e1,e2⟩:=HC.out wr HBX.out j x hx
  subst e1
  have htk:=orph_take (m:=⟨n,c,d,R⟩) hx
  have hob:orphB (⟨n,c,d,R⟩:ManS).lv.flatten x=(decide (x=newN)||(npOk x&&!decide (npK x=99)&&!decide ((npN x:Int)∈fl))):=by rw[← HFL.out];rfl
  rw[hob] at htk
  have HO:=Lib.hid (isorph_run nap x (.slice A3 n3 c3) fl wr hxz (HI2.out.below HBX.out (Nat.le_refl _)) (by have:=HFZ.out;omega))
  have HTK:=Lib.hid htk
  clear hx hxz hob htk
  generalize (npOk x&&!decide (npK x=99)&&!decide ((npN x:Int)∈fl))=q at *
  cases gk with
  | zero=>omega
  | succ gj =>
  by_cases hnew:x=newN
  ·have tn':x.toList=[110,101,119]:=by rw[Lib.toList_data,hnew];rfl
   have tn:(x.toList==[110,101,119])=true:=by rw[tn'];rfl
   have ht:=HTK.out
   rw[decide_eq_true hnew,Bool.true_or,if_pos rfl] at ht
   obtain⟨w5,u5,f1,⟨A6,c6,rfl,f2⟩,f3⟩:=strs_more (x:=x) HROW.out HN5.out (by have:=HLE.out;omega) HBX.out.size 61
   rw[← ht] at f2
   have HLN:=Lib.hid (show n5+1=(orphL (NM.take (j+1)) ⟨n,c,d,R⟩).length by rw[ht,List.length_append,← HN5.out];rfl)
   have HF1:=Lib.hid f1
   have HF2:=Lib.hid f2
   have HF3:=Lib.hid (HBX.out.trans f3)
   clear f1 f2 f3 ht hnew HTK HO
   go_wp2_with (first | (at_builtin;refine wpList_append_two rfl _ _ rfl rfl rfl HF1.out ?_) | fail)
   go_roundg gj
   case measure=>omega
   case rel=>exact⟨j+1,A6,n5+1,c6,by omega,by go_num,by first | rfl | go_num,HLN.out,HF2.out,HF3.out⟩
  have tn':¬ x.toList=[110,101,119]:=fun h=>hnew (by rw[Lib.toList_data] at h;exact ByteArray.ext (Array.toList_inj.1 h))
  have tn:(x.toList==[110,101,119])=false:=beq_eq_false_iff_ne.2 tn'
  have ht:=HTK.out
  rw[decide_eq_false hnew,Bool.false_or] at ht
  have HTK2:=Lib.hid ht
  clear HTK ht hnew
  go_wp2_with fail
  refine HO.out.mono ?_
  rintro e w3 ⟨rfl,b3⟩
  have HR3:=Lib.hid (HROW.out.below b3 (Nat.le_refl _))
  have HB3:=Lib.hid (HBX.out.trans (b3.mono HBX.out.size))
  clear b3 HROW HBX e2
  cases q with
  | false =>
    have ht:=HTK2.out
    rw[if_neg (by simp),List.append_nil] at ht
    have HF2:=HR3.out
    rw[← ht] at HF2
    have HLN:=Lib.hid (show n5=(orphL (NM.take (j+1)) ⟨n,c,d,R⟩).length by rw[ht];exact HN5.out)
    have HF2:=Lib.hid HF2
    clear ht
    go_wp2_with fail
    go_roundg gj
    case measure=>omega
    case rel=>exact⟨j+1,A5,n5,c5,by omega,by go_num,by first | rfl | go_num,HLN.out,HF2.out,HB3.out⟩
  | true =>
    have ht:=HTK2.out
    rw[if_pos rfl] at ht
    obtain⟨w5,u5,f1,⟨A6,c6,rfl,f2⟩,f3⟩:=strs_more (x:=x) HR3.out HN5.out (by have:=HLE.out;omega) HB3.out.size 61
    rw[← ht] at f2
    have HLN:=Lib.hid (show n5+1=(orphL (NM.take (j+1)) ⟨n,c,d,R⟩).length by rw[ht,List.length_append,← HN5.out];rfl)
    have HF1:=Lib.hid f1
    have HF2:=Lib.hid f2
    have HF3:=Lib.hid (HB3.out.trans f3)
    clear f1 f2 f3 ht
    go_wp2_with (first | (at_builtin;refine wpList_append_two rfl _ _ rfl rfl rfl HF1.out ?_) | fail)
    go_roundg gj
    case measure=>omega
    case rel=>exact⟨j+1,A6,n5+1,c6,by omega,by go_num,by first | rfl | go_num,HLN.out,HF2.out,HF3.out⟩
end
end Go.Proofs.YtcpfkaehefcakaaGreat
namespace Go.Proofs.YtcpfkaehefcakaaGreat
open Go.RowKit Go.Shelf
set_option linter.unusedVariables false
set_option maxRecDepth 100000
section
variable {At : Lies} (api : DiskApi At) (nap : NamesApi) {w0 w : World} {gd : Nat} {D : DiskS} {E : List Nat}
include api nap
theorem imapi : ImApi At where
 swap:=fun n c d A k cp R h ok hH hk hl hL hd=>imswap_run api n c d A k cp R h ok hH hk hl hL hd
 swapn:=imswap_nil
 orphans:=fun n c d A k cp R h ok hH hk hl hL=>imorph_run api nap n c d A k cp R h ok hH hl hL
 orphansn:=fun n c d A k cp R w h hl hL=>imorph_nil n c d A k cp R w h hl hL
end
end Go.Proofs.YtcpfkaehefcakaaGreat
namespace Go.Proofs.YtcpfkaehefcakaaGreat
set_option maxRecDepth 100000
set_option linter.unusedVariables false
section
theorem iap : ImApi ProgAt:=imapi api napi
end
end Go.Proofs.YtcpfkaehefcakaaGreat
