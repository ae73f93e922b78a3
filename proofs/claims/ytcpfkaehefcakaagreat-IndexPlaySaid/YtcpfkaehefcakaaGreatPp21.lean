/- ZpLvRefRepl -/
import Derived.Test.YtcpfkaehefcakaaGreatPp18
namespace Go.Proofs.YtcpfkaehefcakaaGreat
set_option maxRecDepth 100000
set_option linter.unusedVariables false
section
open Go.RowKit Go.Shelf
set_option maxHeartbeats 2000000 in
theorem rrepl_any (v:Value)(R:LvL)(k n:Int)(w:World)(h:LvsHas w v R)(hl:R.flatten.length≤100000)(hL:R.length≤100000) :
  Calls Tryz.prog 54 #[v,.int .i64 k,.int .i64 n] w (LvsEnd w (replL R k n) (replE R k n)):=by
 have HP:=Lib.hid (rpick_any v R k w h hl hL)
 have HA:=Lib.hid (fun W (hW:Below w.heap.size w W)=>rall_any v R W (h.below hW (Nat.le_refl _)) hl hL)
 have HN:=Lib.hid (fun W b A c (hr:IRow W b (.slice A R.flatten.length c) R.flatten)=>has_any_i (.slice A R.flatten.length c) R.flatten n W (IRow.in_ hr) (by omega))
 unfold IntsOut at HA
 unfold PickEnd at HP
 by_cases hp:pickE R k=0
 ·rw[hp] at HP
  by_cases hn:n<0
  ·obtain⟨e1,e2⟩:=repl_two hp (Or.inl hn)
   have HE:=lvs_told_none (w:=w) e1 e2
   have q1:decide (n<0)=true:=decide_eq_true hn
   clear h hl hL e1 e2 hp HA HN
   generalize replL R k n=T at *
   generalize replE R k n=E at *
   generalize pickL R k=x at *
   generalize x.length=m at *
   go_enter Tryz.func54,Tryz.ntmps54
   go_wp2_with fail
   refine HP.out.mono ?_
   rintro e w1 ⟨A1,c1,rfl,-,hb⟩
   have HB:=Lib.hid hb
   clear hb
   go_wp2
   go_ret2
   exact HE.out _ HB.out
  ·have q1:decide (n<0)=false:=decide_eq_false hn
   by_cases hnm:n∈R.flatten
   ·obtain⟨e1,e2⟩:=repl_two hp (Or.inr hnm)
    have HE:=lvs_told_none (w:=w) e1 e2
    rw[decide_eq_true hnm] at HN
    clear h hl hL e1 e2 hp hn hnm
    generalize replL R k n=T at *
    generalize replE R k n=E at *
    generalize pickL R k=x at *
    generalize x.length=m at *
    generalize R.flatten=l at *
    go_enter Tryz.func54,Tryz.ntmps54
    go_wp2_with fail
    refine HP.out.mono ?_
    rintro e w1 ⟨A1,c1,rfl,-,hb⟩
    have HB:=Lib.hid hb
    clear hb
    go_wp2_with fail
    refine(HA.out _ HB.out).mono ?_
    rintro e w2 ⟨A2,c2,rfl,h2,hb⟩
    have HN2:=Lib.hid (HN.out _ _ _ _ h2)
    have HB2:=Lib.hid (bj HB.out hb)
    clear hb h2
    go_wp2_with fail
    refine HN2.out.mono ?_
    rintro e w3 ⟨rfl,rfl⟩
    go_wp2
    go_ret2
    exact HE.out _ HB2.out
   ·rw[decide_eq_false hnm] at HN
    obtain⟨e1,e2⟩:=repl_some hp (by omega) hnm
    obtain⟨hm,hk0,hk4,-,-⟩:=pickE_ok hp
    have HC:=Lib.hid (fun W (hW:Below w.heap.size w W)=>lwide_any v R W (h.below hW (Nat.le_refl _)) hl hm.1)
    have HFR:=Lib.hid (fun W W' g (hf:FillAt W g 5 R R.length W')=>hf.rows hm.1)
    have HGD:=Lib.hid (fun i k=>set_getD_small (R:=wideL R) (fun k=>by rw[wideL_getD];exact getD_small hl k) i k)
    have HE1:=Lib.hid e1
    have HE2:=Lib.hid e2
    unfold WideEnd at HC
    clear h hl hL e1 e2 hn hp hm hnm
    generalize R.flatten=l at *
    generalize l.length=ml at *
    generalize replL R k n=T at *
    generalize replE R k n=E at *
    generalize pickL R k=x at *
    generalize x.length=m at *
    have hk:k=0∨k=1∨k=2∨k=3∨k=4:=by omega
    clear hk0 hk4
    have m1:min (1:Int) 4=1:=by decide
    have m2:min (2:Int) 4=2:=by decide
    have m3:min (3:Int) 4=3:=by decide
    have m4:min (4:Int) 4=4:=by decide
    have m5:min (5:Int) 4=4:=by decide
    rcases hk with rfl | rfl | rfl | rfl | rfl
    case' inl =>
     have HE3:=Lib.hid (show T=trimL (putLv ((wideL R).set 0 []) 1 n) from HE2.out)
     have HK:=Lib.hid (fun W wr g h=>repl_step (R:=R) (n:=n) (W:=W) (wr:=wr) (g:=g) HGD.out h 0 1 (by omega) (by omega))
    case' inr.inl =>
     have HE3:=Lib.hid (show T=trimL (putLv ((wideL R).set 1 []) 2 n) from HE2.out)
     have HK:=Lib.hid (fun W wr g h=>repl_step (R:=R) (n:=n) (W:=W) (wr:=wr) (g:=g) HGD.out h 1 2 (by omega) (by omega))
    case' inr.inr.inl =>
     have HE3:=Lib.hid (show T=trimL (putLv ((wideL R).set 2 []) 3 n) from HE2.out)
     have HK:=Lib.hid (fun W wr g h=>repl_step (R:=R) (n:=n) (W:=W) (wr:=wr) (g:=g) HGD.out h 2 3 (by omega) (by omega))
    case' inr.inr.inr.inl =>
     have HE3:=Lib.hid (show T=trimL (putLv ((wideL R).set 3 []) 4 n) from HE2.out)
     have HK:=Lib.hid (fun W wr g h=>repl_step (R:=R) (n:=n) (W:=W) (wr:=wr) (g:=g) HGD.out h 3 4 (by omega) (by omega))
    case' inr.inr.inr.inr =>
     have HE3:=Lib.hid (show T=trimL (putLv ((wideL R).set 4 []) 4 n) from HE2.out)
     have HK:=Lib.hid (fun W wr g h=>repl_step (R:=R) (n:=n) (W:=W) (wr:=wr) (g:=g) HGD.out h 4 4 (by omega) (by omega))
    all_goals
     clear HE2
     go_enter Tryz.func54,Tryz.ntmps54
     go_wp2_with fail
     refine HP.out.mono ?_
     rintro e w1 ⟨A1,c1,rfl,-,hb⟩
     have HB:=Lib.hid hb
     clear hb
     go_wp2_with fail
     refine(HA.out _ HB.out).mono ?_
     rintro e w2 ⟨A2,c2,rfl,h2,hb⟩
     have HN2:=Lib.hid (HN.out _ _ _ _ h2)
     have HB2:=Lib.hid (bj HB.out hb)
     clear hb h2
     go_wp2_with fail
     refine HN2.out.mono ?_
     rintro e w3 ⟨rfl,rfl⟩
     go_wp2_with fail
     refine(HC.out _ HB2.out).mono ?_
     rintro e w3 ⟨g,rfl,hfill⟩
     obtain⟨u0,A0,m0,c0,A4,c4,w5,u,b1,b2,a1,a2,a3,a4,a5⟩:=HK.out _ _ _ (HFR.out _ _ _ hfill)
     clear hfill HK
     have HT:=Lib.hid a5.ltrim
     rw[← HE3.out] at HT
     have HA2:=Lib.hid a2
     clear a2 a5 HE3
     go_wp2_with (first | (at_builtin;refine wpList_append_two rfl _ _ rfl rfl rfl HA2.out ?_) | fail)
     refine HT.out.mono ?_
     rintro e w6 ⟨A6,c6,rfl,h6,hb6⟩
     have HE4:=Lib.hid (show LvsEnd w T E (.returned (.tuple #[.slice A6 T.length c6,.int .i64 0])) w6 from⟨A6,c6,by rw[HE1.out],h6.down HB2.out.size,bj HB2.out hb6⟩)
     clear h6 hb6
     go_wp2
     go_ret2
     exact HE4.out
 ·obtain⟨e1,e2⟩:=repl_pick (n:=n) hp
  have HE:=lvs_told_none (w:=w) e1 e2
  have q1:(pickE R k != 0)=true:=by simp[hp]
  have q2:(pickE R k==0)=false:=by simp[hp]
  clear h hl hL e1 e2 hp HA HN
  generalize replL R k n=T at *
  generalize replE R k n=E at *
  generalize pickE R k=E' at *
  generalize pickL R k=x at *
  generalize x.length=m at *
  go_enter Tryz.func54,Tryz.ntmps54
  go_wp2_with fail
  refine HP.out.mono ?_
  rintro e w1 ⟨A1,c1,rfl,-,hb⟩
  have HB:=Lib.hid hb
  clear hb
  go_wp2
  go_ret2
  exact HE.out _ HB.out
end
end Go.Proofs.YtcpfkaehefcakaaGreat
