import Derived.Test.YthejglbnkmimjaaGreatPp00
import Derived.Test.YthejglbnkmimjaaGreatRows
import Derived.ProofKit
import Derived.WalkKit
namespace Go.Proofs.YthejglbnkmimjaaGreat.storeNone
open Go.RowKit
theorem fact_named: Tryz.pinned.checked.prog.funcNamed Rows.storeNoneRow.func=some 5:=by kernel_rfl
theorem fact_inPlace: (Rows.storeNoneRow.inPlace==Tryz.pinned.checked.prog.inPlace 5)=true:=by kernel_rfl
theorem fact_unfollowed: (Rows.storeNoneRow.unfollowed==Tryz.pinned.checked.prog.unfollowed 5)=true:=by kernel_rfl
theorem fact_recurses: (Rows.storeNoneRow.recurses==Tryz.pinned.checked.prog.recurses 5)=true:=by kernel_rfl
theorem fact_varsNamed: (Rows.storeNoneRow.named==Tryz.pinned.checked.prog.varsNamed 5)=true:=by kernel_rfl
theorem fact_joined: joinedFacts Tryz.pinned.checked.prog 5 Tryz.f5 Rows.storeNoneSpec Rows.storeNoneRow=true:=by
 unfold joinedFacts;rw[fact_inPlace,fact_unfollowed,fact_recurses,fact_varsNamed];kernel_rfl
theorem fact_wrapper: Tryz.f5.isWrapper Tryz.pinned.checked.prog Rows.storeNoneRow.wrapper Rows.storeNoneRow.mainSum:=by unfold Func.isWrapper;first | (rw[if_pos (by decide +kernel)];kernel_rfl) | (rw[if_neg (by decide +kernel)];exact⟨rfl,rfl⟩)
end Go.Proofs.YthejglbnkmimjaaGreat.storeNone
