/- ZnImSmall -/
import Derived.Test.YtokbfellcadkpaaGreatPn19
import Derived.Test.YtokbfellcadkpaaGreatPn25
import Derived.Test.YtokbfellcadkpaaGreatPn08
import Derived.Test.YtokbfellcadkpaaGreatPn17
namespace Go.Proofs.YtokbfellcadkpaaGreat
open Go.RowKit
set_option linter.unusedVariables false
set_option maxRecDepth 100000
def imLayP (D:DiskS)(s:ByteArray) : Nat × DiskS:=if (layP D newN s).1≠0 then layP D newN s else renameS (layP D newN s).2 newN mapN
theorem imlay_1 {D:DiskS}{s:ByteArray}(h:(createS D newN).1≠0) : imLayP D s=createS D newN:=by
 have e:layP D newN s=createS D newN:=by unfold layP;rw[if_pos h]
 unfold imLayP;rw[e,if_pos h]
theorem imlay_2 {D:DiskS}{s:ByteArray}(h:(createS D newN).1=0)(h2:(appendS (createS D newN).2 newN s).1≠0) : imLayP D s=appendS (createS D newN).2 newN s:=by
 have e:layP D newN s=appendS (createS D newN).2 newN s:=by unfold layP;rw[if_neg (by simp[h]),if_pos h2]
 unfold imLayP;rw[e,if_pos h2]
theorem imlay_3 {D:DiskS}{s:ByteArray}(h:(createS D newN).1=0)(h2:(appendS (createS D newN).2 newN s).1=0)(h3:(syncS (appendS (createS D newN).2 newN s).2 newN).1≠0) : imLayP D s=syncS (appendS (createS D newN).2 newN s).2 newN:=by
 have e:layP D newN s=syncS (appendS (createS D newN).2 newN s).2 newN:=by unfold layP;rw[if_neg (by simp[h]),if_neg (by simp[h2])]
 unfold imLayP;rw[e,if_pos h3]
theorem imlay_4 {D:DiskS}{s:ByteArray}(h:(createS D newN).1=0)(h2:(appendS (createS D newN).2 newN s).1=0)(h3:(syncS (appendS (createS D newN).2 newN s).2 newN).1=0) : imLayP D s=renameS (syncS (appendS (createS D newN).2 newN s).2 newN).2 newN mapN:=by
 have e:layP D newN s=syncS (appendS (createS D newN).2 newN s).2 newN:=by unfold layP;rw[if_neg (by simp[h]),if_neg (by simp[h2])]
 unfold imLayP;rw[e,if_neg (by simp[h3])]
theorem imup_nil (w:World) : Calls Tryz.prog 88 #[.pointer none] w fun e w'=>e = .returned (err 1)∧w=w':=by
 have HS:=Lib.hid (size_nil (none_nil w) ⟨#[109,97,112]⟩);unfold Says at HS;go_enter Tryz.func88,Tryz.ntmps88;go_wp2_with fail;refine HS.out.mono ?_;rintro e w' ⟨rfl,rfl⟩;go_wp2;go_ret;exact⟨rfl,rfl⟩
section
variable {At : Lies} (api : DiskApi At) {w0 w : World} {gd : Nat} {D : DiskS} {E : List Nat}
include api
theorem imup_run (h:DS At w0 gd D E w)(ok:WfP D) : Calls Tryz.prog 88 #[ptr gd] w fun e w'=>e = .returned (err (if D.down=true then 61 else 0))∧w=w':=by
 have hS:=h.size api ok ⟨#[109,97,112]⟩ (by decide);rcases sizeS_two D ⟨#[109,97,112]⟩ with⟨h1,h2⟩ | ⟨h1,h2⟩
 ·rw[if_pos h1];rw[h2] at hS;have HS:=Lib.hid hS;clear hS;go_enter Tryz.func88,Tryz.ntmps88;go_wp2_with fail;refine HS.out.mono ?_;rintro e w' ⟨rfl,rfl⟩;go_wp2;go_ret;exact⟨rfl,rfl⟩
 ·rw[if_neg (by rw[h1];decide)];have t1:(((sizeS D ⟨#[109,97,112]⟩).2:Int)==1)=false:=by simp;omega
  have t2:(((sizeS D ⟨#[109,97,112]⟩).2:Int)==61)=false:=by simp;omega
  have HS:=Lib.hid hS;generalize (sizeS D ⟨#[109,97,112]⟩).1=a at *;generalize (sizeS D ⟨#[109,97,112]⟩).2=b at *;clear hS h2;go_enter Tryz.func88,Tryz.ntmps88;go_wp2_with fail;refine HS.out.mono ?_;rintro e w' ⟨rfl,rfl⟩;go_wp2;go_ret;exact⟨rfl,rfl⟩
theorem imlay_run (h:DS At w0 gd D E w)(ok:WfP D)(s:ByteArray)(hs:s.size≤1099511627776) : Calls Tryz.prog 206 #[ptr gd,.string s] w (DEnd At w0 gd (err (imLayP D s).1) (imLayP D s).2 E w):=by
 have k1:Calls Tryz.prog 129 #[ptr gd,.string ⟨#[110,101,119]⟩] w (DEnd At w0 gd (err (createS D newN).1) (createS D newN).2 E w):=h.disk api (fun F hF=>api.create newN hF ok.ok (by decide));have o1:=wp_create ok newN;have o2:=wp_append o1 newN s;have o3:=wp_sync o2 newN;have k2:∀ W,DS At w0 gd (createS D newN).2 E W→Calls Tryz.prog 131 #[ptr gd,.string ⟨#[110,101,119]⟩,.string s] W (DEnd At w0 gd (err (appendS (createS D newN).2 newN s).1) (appendS (createS D newN).2 newN s).2 E W):=fun W hW=>hW.disk api (fun F hF=>api.append newN s hF o1.ok hs (by decide))
 have k3:∀ W,DS At w0 gd (appendS (createS D newN).2 newN s).2 E W→Calls Tryz.prog 147 #[ptr gd,.string ⟨#[110,101,119]⟩] W (DEnd At w0 gd (err (syncS (appendS (createS D newN).2 newN s).2 newN).1) (syncS (appendS (createS D newN).2 newN s).2 newN).2 E W):=fun W hW=>hW.disk api (fun F hF=>api.sync newN hF o2.ok (by decide))
 have k4:∀ W,DS At w0 gd (syncS (appendS (createS D newN).2 newN s).2 newN).2 E W→Calls Tryz.prog 190 #[ptr gd,.string ⟨#[110,101,119]⟩,.string ⟨#[109,97,112]⟩] W (DEnd At w0 gd (err (renameS (syncS (appendS (createS D newN).2 newN s).2 newN).2 newN mapN).1) (renameS (syncS (appendS (createS D newN).2 newN s).2 newN).2 newN mapN).2 E W):=fun W hW=>hW.disk api (fun F hF=>api.rename newN mapN hF o3.ok (by decide) (by decide))
 by_cases h1:(createS D newN).1=0
 case neg =>
  rw[imlay_1 h1];have t:(((createS D newN).1:Int) != 0)=true:=by simp;omega
  generalize createS D newN=X1 at *;generalize X1.1=y at *;have K1:=Lib.hid k1;clear k1 k2 k3 k4 h ok o1 o2 o3 h1 hs;go_enter Tryz.func206,Tryz.ntmps206;go_wp2_with fail;refine K1.out.mono ?_;rintro e w1 ⟨rfl,d1,q1⟩;have H1:=Lib.hid (And.intro d1 q1);clear d1 q1;go_wp2;go_ret;exact⟨rfl,H1.out.1,H1.out.2⟩
 rw[h1] at k1;by_cases h2:(appendS (createS D newN).2 newN s).1=0
 case neg =>
  rw[imlay_2 h1 h2];have t:(((appendS (createS D newN).2 newN s).1:Int) != 0)=true:=by simp;omega
  generalize appendS (createS D newN).2 newN s=X2 at *;generalize (createS D newN).2=D1 at *;generalize X2.1=y at *;have K1:=Lib.hid k1;have K2:=Lib.hid k2;clear k1 k2 k3 k4 h ok o1 o2 o3 h1 h2 hs;go_enter Tryz.func206,Tryz.ntmps206;go_wp2_with fail;refine K1.out.mono ?_;rintro e w1 ⟨rfl,d1,q1⟩;have H1:=Lib.hid (And.intro d1 q1);clear d1 q1;go_wp2_with fail;refine(K2.out _ H1.out.1).mono ?_;rintro e w2 ⟨rfl,d2,q2⟩;have H2:=Lib.hid (And.intro d2 q2);clear d2 q2;go_wp2;go_ret;exact⟨rfl,H2.out.1,H1.out.2.trans H2.out.2⟩
 rw[h2] at k2;by_cases h3:(syncS (appendS (createS D newN).2 newN s).2 newN).1=0
 case neg =>
  rw[imlay_3 h1 h2 h3];have t:(((syncS (appendS (createS D newN).2 newN s).2 newN).1:Int) != 0)=true:=by simp;omega
  generalize syncS (appendS (createS D newN).2 newN s).2 newN=X3 at *;generalize (appendS (createS D newN).2 newN s).2=D2 at *;generalize (createS D newN).2=D1 at *;generalize X3.1=y at *;have K1:=Lib.hid k1;have K2:=Lib.hid k2;have K3:=Lib.hid k3;clear k1 k2 k3 k4 h ok o1 o2 o3 h1 h2 h3 hs;go_enter Tryz.func206,Tryz.ntmps206;go_wp2_with fail;refine K1.out.mono ?_;rintro e w1 ⟨rfl,d1,q1⟩;have H1:=Lib.hid (And.intro d1 q1);clear d1 q1;go_wp2_with fail;refine(K2.out _ H1.out.1).mono ?_;rintro e w2 ⟨rfl,d2,q2⟩;have H2:=Lib.hid (And.intro d2 q2);clear d2 q2;go_wp2_with fail;refine(K3.out _ H2.out.1).mono ?_;rintro e w3 ⟨rfl,d3,q3⟩;have H3:=Lib.hid (And.intro d3 q3);clear d3 q3;go_wp2;go_ret;exact⟨rfl,H3.out.1,(H1.out.2.trans H2.out.2).trans H3.out.2⟩
 rw[imlay_4 h1 h2 h3];rw[h3] at k3;generalize renameS (syncS (appendS (createS D newN).2 newN s).2 newN).2 newN mapN=X4 at *;generalize (syncS (appendS (createS D newN).2 newN s).2 newN).2=D3 at *;generalize (appendS (createS D newN).2 newN s).2=D2 at *;generalize (createS D newN).2=D1 at *;have K1:=Lib.hid k1;have K2:=Lib.hid k2;have K3:=Lib.hid k3;have K4:=Lib.hid k4;clear k1 k2 k3 k4 h ok o1 o2 o3 h1 h2 h3 hs;go_enter Tryz.func206,Tryz.ntmps206;go_wp2_with fail;refine K1.out.mono ?_;rintro e w1 ⟨rfl,d1,q1⟩;have H1:=Lib.hid (And.intro d1 q1);clear d1 q1;go_wp2_with fail;refine(K2.out _ H1.out.1).mono ?_;rintro e w2 ⟨rfl,d2,q2⟩;have H2:=Lib.hid (And.intro d2 q2);clear d2 q2;go_wp2_with fail;refine(K3.out _ H2.out.1).mono ?_;rintro e w3 ⟨rfl,d3,q3⟩;have H3:=Lib.hid (And.intro d3 q3);clear d3 q3;go_wp2_with fail;refine(K4.out _ H3.out.1).mono ?_;rintro e w4 ⟨rfl,d4,q4⟩;have H4:=Lib.hid (And.intro d4 q4);clear d4 q4;go_wp2;go_ret;exact⟨rfl,H4.out.1,((H1.out.2.trans H2.out.2).trans H3.out.2).trans H4.out.2⟩
end
theorem np_kind {x:ByteArray}(h:npOk x=true) : npK x=99∨npK x=116∨npK x=98:=by
 obtain⟨c,l,-,-,hk,-,e,-⟩:=np_yes h;rw[e];unfold isK at hk;simp only[Bool.or_eq_true,beq_iff_eq] at hk;rcases hk with(rfl | rfl) | rfl
 ·exact Or.inl rfl
 ·exact Or.inr (Or.inl rfl)
 ·exact Or.inr (Or.inr rfl)
theorem isorph_run (nap:NamesApi)(x:ByteArray)(v:Value)(fl:List Int)(w:World)(hx:x.size≤maxLen)(hv:IntsIn w v fl)(hl:fl.length≤1000000) :
  Calls Tryz.prog 156 #[.string x,v] w fun e w'=>e = .returned (.bool (npOk x&&!decide (npK x=99)&&!decide ((npN x:Int)∈fl)))∧Below w.heap.size w w':=by
 have HP:=Lib.hid (nap.parse x w hx);have HC:=Lib.hid (fun W (hb:Below w.heap.size w W)=>contains_any v fl (npN x:Nat) W (hv.below hb (Nat.le_refl _)) hl);have hk:=@np_kind x;obtain⟨A,off,cap,rfl,-,-⟩:=hv.cell;generalize decide ((npN x:Int)∈fl)=q at *;generalize npOk x=ok at *;generalize npK x=kd at *;generalize npN x=no at *;clear hv hl hx;generalize fl.length=m at *;cases ok with
 | false =>
   rw[Bool.false_and,Bool.false_and];clear hk HC;go_enter Tryz.func156,Tryz.ntmps156;go_wp2_with fail;refine HP.out.mono ?_;rintro e w1 ⟨rfl,b1⟩;go_wp2;go_ret;exact⟨rfl,b1⟩
 | true =>
   rcases hk rfl with rfl | rfl | rfl
   ·rw[decide_eq_true rfl];clear hk HC;go_enter Tryz.func156,Tryz.ntmps156;go_wp2_with fail;refine HP.out.mono ?_;rintro e w1 ⟨rfl,b1⟩;go_wp2;go_ret;exact⟨rfl,b1⟩
   all_goals
    rw[decide_eq_false (by decide)];clear hk;go_enter Tryz.func156,Tryz.ntmps156;go_wp2_with fail;refine HP.out.mono ?_;rintro e w1 ⟨rfl,b1⟩;have HC1:=Lib.hid (HC.out w1 b1);have HB1:=Lib.hid b1;clear b1 HC HP;go_wp2_with fail;refine HC1.out.mono ?_;rintro e w2 ⟨rfl,rfl⟩;go_wp2;go_ret;exact⟨by cases q<;>rfl,HB1.out⟩
end Go.Proofs.YtokbfellcadkpaaGreat
