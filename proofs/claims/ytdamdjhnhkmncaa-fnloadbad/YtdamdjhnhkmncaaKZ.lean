/-
  What the laws' own copying of maps and shades does.
-/
import Derived.Test.YtdamdjhnhkmncaaKHostMark0
import Derived.Test.YtdamdjhnhkmncaaKHostOut0
import Derived.Test.YtdamdjhnhkmncaaKHostEq0
import Derived.Test.YtdamdjhnhkmncaaKHostGive0
namespace Go.Proofs.Ytdamdjhnhkmncaa
open Go.RowKit

end Go.Proofs.Ytdamdjhnhkmncaa

/-
  What the laws' own copying of a guest does.
-/
namespace Go.Proofs.Ytdamdjhnhkmncaa
open Go.RowKit

theorem SameIn.then {lo hi : Nat} {w w' w'' : World} (s : SameIn lo hi w w') (t : SameIn lo hi w' w'') : SameIn lo hi w w'' := fun k a b => (t k a b).trans (s k a b)

end Go.Proofs.Ytdamdjhnhkmncaa

/-
  What the laws' own copying of a host does.
-/
namespace Go.Proofs.Ytdamdjhnhkmncaa
open Go.RowKit

end Go.Proofs.Ytdamdjhnhkmncaa
