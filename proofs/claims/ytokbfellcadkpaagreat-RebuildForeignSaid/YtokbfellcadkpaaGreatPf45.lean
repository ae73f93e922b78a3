/- ZfPtNot, ZfIxOpenT -/
import Derived.Test.YtokbfellcadkpaaGreatPf43
import Derived.Test.YtokbfellcadkpaaGreatPf25
namespace Go.Proofs.YtokbfellcadkpaaGreat
open Go.RowKit
set_option linter.unusedVariables false
set_option maxRecDepth 100000
section
variable {At : Lies} (api : DiskApi At) (nap : NamesApi) {w0 w : World} {gd : Nat} {D : DiskS} {E : List Nat}
include api
theorem popen_down (h:DS At w0 gd D E w)(ok:WfP D)(n:Int)(hd:D.down=true) : Calls Tryz.prog 155 #[ptr gd,.int .i64 n] w fun e w'=>e = .returned (.tuple #[.pointer none,err 61])∧w=w':=by
 have hU:=ptup_run api h ok;rw[if_pos hd] at hU;have HU:=Lib.hid hU;clear hU h ok hd;go_enter Tryz.func155,Tryz.ntmps155;go_wp2_with fail;refine HU.out.mono ?_;rintro e w' ⟨rfl,rfl⟩;go_wp2;go_ret2;exact⟨rfl,rfl⟩
include nap
set_option maxHeartbeats 1000000 in
theorem popen_no (h:DS At w0 gd D E w)(ok:WfP D)(hc:D.count≤1000000000)(hcap:D.cap≤1048576)(n:Int)(wn:(Lit.int .i64 n).wf=true)(hd:D.down=false)(h2:(rdW D (ptT n)).2.1≠0∨tgOk (rdW D (ptT n)).1=false) :
  Calls Tryz.prog 155 #[ptr gd,.int .i64 n] w (DEnd At w0 gd (.tuple #[.pointer none,err 90]) (rdW D (ptT n)).2.2 E w):=by
 have hU:=ptup_run api h ok;rw[if_neg (by rw[hd];decide)] at hU;have HU:=Lib.hid hU;have hz:=rdW_size ok (ptT n);have hN:=Lib.hid fun W=>nap.table n W wn
 rw[show nmS 116 n=ptT n from rfl] at hN;have hW:=Lib.hid fun W (hb:Below w.heap.size w W)=>whole_run api (h.below api hb) ok (by omega) (ptT n) (ptT_le n)
 have hG:=Lib.hid fun W=>tget_any (rdW D (ptT n)).1 W (by omega)
 have HLT:=Lib.hid h.lt;by_cases h1:(rdW D (ptT n)).2.1=0
 ·have h3:tgOk (rdW D (ptT n)).1=false:=by rcases h2 with h2 | h2;exact absurd h1 h2;exact h2
  unfold TgEnd at hG;rw[(tg_no h3).2,(tg_no h3).1] at hG;rw[h1] at hW;generalize (rdW D (ptT n)).2.2=D1 at *;generalize (rdW D (ptT n)).1=s at *;generalize ptT n=nm at *;clear h ok hc hcap wn hd h1 h2 hU hz h3;go_enter Tryz.func155,Tryz.ntmps155;go_wp2_with fail;refine HU.out.mono ?_;rintro e w' ⟨rfl,rfl⟩;go_wp2_with fail;refine(hN.out _).mono ?_;rintro e w1 ⟨rfl,b1⟩;have HK1:=Lib.hid (Kept.of_below b1 HLT.out);have HD1:=Lib.hid (hW.out _ b1);clear b1 hW hN HU;go_wp2_with fail;refine HD1.out.mono ?_;rintro e w2 ⟨rfl,d2,k2⟩;have H2:=Lib.hid (And.intro d2 (HK1.out.trans k2));clear d2 k2 HD1 HK1;go_wp2_with fail;refine(hG.out _).mono ?_;rintro e w3 ⟨A,c,rfl,r3,b3⟩;have H3:=Lib.hid b3;clear r3 b3 hG;go_wp2;go_ret2;exact⟨rfl,H2.out.1.below api H3.out,H2.out.2.trans (Kept.of_below H3.out H2.out.1.lt)⟩
 ·have te:(((rdW D (ptT n)).2.1:Int) != 0)=true:=by simp;omega
  generalize (rdW D (ptT n)).2.2=D1 at *;generalize (rdW D (ptT n)).2.1=y at *;generalize (rdW D (ptT n)).1=s at *;generalize ptT n=nm at *;clear h ok hc hcap wn hd h1 h2 hU hz hG;go_enter Tryz.func155,Tryz.ntmps155;go_wp2_with fail;refine HU.out.mono ?_;rintro e w' ⟨rfl,rfl⟩;go_wp2_with fail;refine(hN.out _).mono ?_;rintro e w1 ⟨rfl,b1⟩;have HK1:=Lib.hid (Kept.of_below b1 HLT.out);have HD1:=Lib.hid (hW.out _ b1);clear b1 hW hN HU;go_wp2_with fail;refine HD1.out.mono ?_;rintro e w2 ⟨rfl,d2,k2⟩;have H2:=Lib.hid (And.intro d2 (HK1.out.trans k2));clear d2 k2 HD1 HK1;go_wp2;go_ret2;exact⟨rfl,H2.out.1,H2.out.2⟩
end
end Go.Proofs.YtokbfellcadkpaaGreat
namespace Go.Proofs.YtokbfellcadkpaaGreat
open Go.RowKit
set_option linter.unusedVariables false
set_option maxRecDepth 100000
section
variable {At : Lies} (api : DiskApi At) (nap : NamesApi) {w0 w : World} {gd : Nat} {D : DiskS} {E : List Nat}
def OpenTEnd (At:Lies)(w0:World)(gd:Nat)(n:Int)(D:DiskS)(E:List Nat)(w:World)(e:Ending)(w':World) : Prop :=
 (openE D n=0∧PEnd2 At w0 gd n (tgL (rdW D (ptT n)).1) (ldF (rdW D (ptT n)).2.2 n (tgL (rdW D (ptT n)).1)) (openD D n) E w e w') ∨
 (openE D n≠0∧e = .returned (.tuple #[.pointer none,err (openE D n)])∧DS At w0 gd (openD D n) E w'∧Kept E w w')
include api nap
theorem popen_all (h:DS At w0 gd D E w)(ok:WfP D)(hc:D.count≤1000000000)(n:Int)(wn:(Lit.int .i64 n).wf=true)(hl:openE D n=0→(tgL (rdW D (ptT n)).1).length≤10000) :
  Calls Tryz.prog 155 #[ptr gd,.int .i64 n] w (OpenTEnd At w0 gd n D E w):=by
 have hcap:=ok.cap;unfold OpenTEnd;cases hd:D.down with
 | true =>
   have e1:openE D n=61:=by unfold openE;rw[if_pos hd]
   have e2:openD D n=D:=by unfold openD;rw[if_pos hd]
   refine(popen_down api h ok n hd).mono ?_;rintro e w' ⟨rfl,rfl⟩;rw[e1,e2];exact Or.inr ⟨by decide,rfl,h,Kept.refl _ _⟩
 | false =>
   have hdn:¬ D.down=true:=by rw[hd];decide
   by_cases h1:(rdW D (ptT n)).2.1=0
   ·cases h2:tgOk (rdW D (ptT n)).1 with
    | true =>
      have e1:openE D n=0:=by
       unfold openE;rw[if_neg hdn,if_neg (by simp[h1]),if_neg (by rw[h2];decide)]
      have e2:openD D n=(rdW (rdW D (ptT n)).2.2 (ptB n)).2.2:=by
       unfold openD;rw[if_neg hdn,if_neg (by simp[h1]),if_neg (by rw[h2];decide)]
      have hl2:=hl e1;rw[e1,e2];exact(popen_yes2 api nap h ok hc hcap n wn hd h1 h2 hl2).mono fun e w' h=>Or.inl ⟨rfl,h⟩
    | false =>
      have e1:openE D n=90:=by
       unfold openE;rw[if_neg hdn,if_neg (by simp[h1]),if_pos h2]
      have e2:openD D n=(rdW D (ptT n)).2.2:=by
       unfold openD;rw[if_neg hdn,if_neg (by simp[h1]),if_pos h2]
      rw[e1,e2];exact(popen_no api nap h ok hc hcap n wn hd (Or.inr h2)).mono fun e w' h=>Or.inr ⟨by decide,h.1,h.2.1,h.2.2⟩
   ·have e1:openE D n=90:=by
     unfold openE;rw[if_neg hdn,if_pos h1]
    have e2:openD D n=(rdW D (ptT n)).2.2:=by
     unfold openD;rw[if_neg hdn,if_pos h1]
    rw[e1,e2];exact(popen_no api nap h ok hc hcap n wn hd (Or.inl h1)).mono fun e w' h=>Or.inr ⟨by decide,h.1,h.2.1,h.2.2⟩
end
theorem wp_openD {D:DiskS}(h:WfP D)(n:Int) : WfP (openD D n):=by
 unfold openD;split
 ·exact h
 ·split
  ·exact wp_rdW h _
  ·split
   ·exact wp_rdW h _
   ·exact wp_rdW (wp_rdW h _) _
end Go.Proofs.YtokbfellcadkpaaGreat
