/-
  Pages that get another map, plainly, by places: one, several; what is shared, what is moved.
-/
import Derived.Test.YtdamdjhnhkmncaaKT
import Derived.Test.YtdamdjhnhkmncaaKPA
namespace Go.Proofs.Ytdamdjhnhkmncaa
open Go.RowKit

end Go.Proofs.Ytdamdjhnhkmncaa

/-
  What is in a frame moved to a free one, plainly, by places.
-/
namespace Go.Proofs.Ytdamdjhnhkmncaa
open Go.RowKit

end Go.Proofs.Ytdamdjhnhkmncaa

/-
  A word of a frame written, a shade written, all shades of a guest forgotten, plainly, by places.
-/
namespace Go.Proofs.Ytdamdjhnhkmncaa
open Go.RowKit

end Go.Proofs.Ytdamdjhnhkmncaa

/-
  What a guest's own guest reads and writes, plainly, by places: by a shade, or by a walk.
-/
namespace Go.Proofs.Ytdamdjhnhkmncaa
open Go.RowKit

end Go.Proofs.Ytdamdjhnhkmncaa
