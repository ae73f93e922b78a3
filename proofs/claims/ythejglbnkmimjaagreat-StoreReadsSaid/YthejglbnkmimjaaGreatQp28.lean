import Derived.Test.YthejglbnkmimjaaGreatQp00
import Derived.Test.YthejglbnkmimjaaGreatRows
import Derived.ProofKit
import Derived.WalkKit
namespace Go.Proofs.YthejglbnkmimjaaGreat.storeReads
open Go.RowKit
theorem fact_named: Tryz.pinned.checked.prog.funcNamed Rows.storeReadsRow.func=some 3:=by kernel_rfl
theorem fact_inPlace: (Rows.storeReadsRow.inPlace==Tryz.pinned.checked.prog.inPlace 3)=true:=by kernel_rfl
theorem fact_unfollowed: (Rows.storeReadsRow.unfollowed==Tryz.pinned.checked.prog.unfollowed 3)=true:=by kernel_rfl
theorem fact_recurses: (Rows.storeReadsRow.recurses==Tryz.pinned.checked.prog.recurses 3)=true:=by kernel_rfl
theorem fact_varsNamed: (Rows.storeReadsRow.named==Tryz.pinned.checked.prog.varsNamed 3)=true:=by kernel_rfl
theorem fact_joined: joinedFacts Tryz.pinned.checked.prog 3 Tryz.f3 Rows.storeReadsSpec Rows.storeReadsRow=true:=by
 unfold joinedFacts;rw[fact_inPlace,fact_unfollowed,fact_recurses,fact_varsNamed];kernel_rfl
theorem fact_wrapper: Tryz.f3.isWrapper Tryz.pinned.checked.prog Rows.storeReadsRow.wrapper Rows.storeReadsRow.mainSum:=by unfold Func.isWrapper;first|(rw[if_pos (by decide +kernel)];kernel_rfl)|(rw[if_neg (by decide +kernel)];exact⟨rfl,rfl⟩)
end Go.Proofs.YthejglbnkmimjaaGreat.storeReads
