/-
  What the program's own HostLoad and HostNew do, at every argument.
-/
import Derived.Test.YtdamdjhnhkmncaaKHostLoad0
namespace Go.Proofs.Ytdamdjhnhkmncaa
open Go.RowKit

def noH : Hst := ⟨[], [], 0⟩

end Go.Proofs.Ytdamdjhnhkmncaa
