/-
  The contract of bytes.Unseal. Own work.
-/
import Derived.Test.YtpiiehenmkinaaaDoorWe
import Derived.Deep.RegionWith
namespace Go.Proofs.YtpiiehenmkinaaaDoor
open Go.RowKit

end Go.Proofs.YtpiiehenmkinaaaDoor
