import Derived.Test.YthejglbnkmimjaaGreatPp08
import Derived.Test.YthejglbnkmimjaaGreatPp19
import Derived.Test.YthejglbnkmimjaaGreatPp15
set_option linter.unusedVariables false
set_option maxRecDepth 100000
set_option maxHeartbeats 9000000
namespace Go.Proofs.YthejglbnkmimjaaGreat
open Tryz
section
open Go.RowKit Go.Shelf
section
variable {w:World}{p:Value}
theorem PW{b:Nat}{a:Option Addr}(h:w.cell? ⟨b,1,none⟩=some (.pointer a))(c:yw 32 #[.pointer a] w (.bool true)):yw 77 #[ptr b] w (.int .i64 1):=by
 have d:=qQ (ND c ⟨#[110,101,119]⟩);clear c;unfold yw at*;go_enter func77,ntmps77;go_wp2_with fail;refine d.out.mono ?_;rintro e f⟨rfl,rfl⟩;go_wp2;go_ret;exact⟨rfl,rfl⟩
end
theorem PA{b n:Nat}(s:1<=n)(v:n<=1000)(f:FuncId)(x y:Array Value)(k:Nat)(u:k≠0)(W:World)(d:World->Prop)(l:Enters prog f)(r:W.cell? ⟨b,0,none⟩=some (.func (.func f) x y))
  (j:Calls prog f (x++#[]++y) W fun e a=>e = .returned (.int .i64 (k:Nat))/\d a):
  Calls prog 76 #[.slice (some ⟨b,0,none⟩) n n] W fun e a=>e = .returned (.int .i64 (k:Nat))/\d a:=by
 have c:=j;have g:x++#[]++y=x++y:=by simp
 rw[g]at c;have q:=qQ c;have t:((k:Int) != 0)=true:=by simp;omega
 have z:(0:Int)<(n:Int):=by omega
 unfold Enters at l;clear j c g;go_enter func76,ntmps76;go_wp2;go_loopw [8] (fun i wr=>i = .int .i64 0/\wr=W) (fun i _=>0)
 case atStart=>exact⟨rfl,rfl⟩
 case round =>
  obtain⟨rfl,rfl⟩:=hrel;go_wp2_with fail;refine q.out.mono ?_;rintro e A⟨rfl,m⟩;have o:=qQ m;clear m l r;go_wp2;go_ret;exact⟨rfl,o.out⟩
theorem PB(a:Option Addr)(W:World)(o:∀i,Below W.heap.size W i->yw 32 #[.pointer a] i (.bool true)):
  Calls prog 38 #[.pointer a] W fun e i=>e = .returned (.tuple #[.pointer none,.int .i64 1])/\Below W.heap.size W i:=by
 have s:=qQ (NF (o W (Below.refl _ _)));obtain⟨d,j⟩:∃d,d=W.alloc (.cells #[.pointer none,.pointer a,.int .i64 0,.int .i64 0,.int .i64 0,.int .i64 0] 130):=⟨_,rfl⟩
 have t:za d W.heap.size 130 #[.pointer none,.pointer a,.int .i64 0,.int .i64 0,.int .i64 0,.int .i64 0]:=by rw[j];exact za.new W _ _
 have k:Below W.heap.size W d:=by rw[j];exact(Below.refl _ _).alloc (qZ _) _
 obtain⟨c,m⟩:∃c,c=W.heap.size:=⟨_,rfl⟩
 obtain⟨f,g⟩:∃f,f=d.alloc (.cells #[.func (.func 77) #[ptr c] #[],.func (.func 78) #[ptr c] #[],.func (.func 79) #[ptr c] #[]] 56):=⟨_,rfl⟩
 have u:za f d.heap.size 56 #[.func (.func 77) #[ptr c] #[],.func (.func 78) #[ptr c] #[],.func (.func 79) #[ptr c] #[]]:=by rw[g];exact za.new d _ _
 have l:Below W.heap.size W f:=by rw[g];exact k.alloc k.size _
 have v:za f W.heap.size 130 #[.pointer none,.pointer a,.int .i64 0,.int .i64 0,.int .i64 0,.int .i64 0]:=by rw[g];exact t.alloc _
 have D:∀(r:Fn) (first q:Array Value) (w:World),(Instr.makeFunc r first q).run prog w = .ok (.func r first q) w:=fun _ _ _ _=>rfl
 have R:=qQ (PA (b:=d.heap.size) (n:=3) (by omega) (by omega) 77 #[ptr c] #[] 1 (by omega) f (fun y=>f=y) (enters_of func77 (by kernel_rfl) rfl) (u.cell 0) (by
  rw[m];exact PW (v.cell 1) (o f l)))
 have z:=qQ l;have A:=j.symm;have B:=g.symm;have C:=m.symm;clear o t u v k l j g m;unfold yw at s;go_enter func38,ntmps38;go_wp2_with fail;refine s.out.mono ?_;rintro e y⟨rfl,rfl⟩;go_wp2_with fail;refine R.out.mono ?_;rintro e F⟨rfl,rfl⟩;go_wp2;go_ret2;exact⟨rfl,z.out⟩
end
end Go.Proofs.YthejglbnkmimjaaGreat
