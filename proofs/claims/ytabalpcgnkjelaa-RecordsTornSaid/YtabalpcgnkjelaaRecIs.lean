/- What the program's records answer: its Put, Get, Back and Whole are as RecApi has them. -/
import Derived.Test.YtabalpcgnkjelaaRecBackOwn
import Derived.Test.YtabalpcgnkjelaaRecWholeOwn
namespace Go.Proofs.Ytabalpcgnkjelaa
open Go.RowKit

theorem api : RecApi where
  put := rput_any
  get := fun s a w hs wa => rget_any s a w (by unfold maxLen; omega) wa
  back := fun s a w hs wa => rback_any s a w (by unfold maxLen; omega) wa
  whole := rwhole_any
end Go.Proofs.Ytabalpcgnkjelaa
