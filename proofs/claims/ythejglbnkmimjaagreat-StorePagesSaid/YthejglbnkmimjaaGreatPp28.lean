import Derived.Test.YthejglbnkmimjaaGreatPp00
import Derived.Test.YthejglbnkmimjaaGreatRows
import Derived.ProofKit
import Derived.WalkKit
namespace Go.Proofs.YthejglbnkmimjaaGreat.storePages
open Go.RowKit
theorem fact_named: Tryz.pinned.checked.prog.funcNamed Rows.storePagesRow.func=some 4:=by kernel_rfl
theorem fact_inPlace: (Rows.storePagesRow.inPlace==Tryz.pinned.checked.prog.inPlace 4)=true:=by kernel_rfl
theorem fact_unfollowed: (Rows.storePagesRow.unfollowed==Tryz.pinned.checked.prog.unfollowed 4)=true:=by kernel_rfl
theorem fact_recurses: (Rows.storePagesRow.recurses==Tryz.pinned.checked.prog.recurses 4)=true:=by kernel_rfl
theorem fact_varsNamed: (Rows.storePagesRow.named==Tryz.pinned.checked.prog.varsNamed 4)=true:=by kernel_rfl
theorem fact_joined: joinedFacts Tryz.pinned.checked.prog 4 Tryz.f4 Rows.storePagesSpec Rows.storePagesRow=true:=by
 unfold joinedFacts;rw[fact_inPlace,fact_unfollowed,fact_recurses,fact_varsNamed];kernel_rfl
theorem fact_wrapper: Tryz.f4.isWrapper Tryz.pinned.checked.prog Rows.storePagesRow.wrapper Rows.storePagesRow.mainSum:=by unfold Func.isWrapper;first|(rw[if_pos (by decide +kernel)];kernel_rfl)|(rw[if_neg (by decide +kernel)];exact⟨rfl,rfl⟩)
end Go.Proofs.YthejglbnkmimjaaGreat.storePages
