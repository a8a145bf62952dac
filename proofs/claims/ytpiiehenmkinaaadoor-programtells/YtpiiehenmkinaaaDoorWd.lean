/-
  The contracts of bytes.Crc, check, Seal. Own work.
-/
import Derived.Test.YtpiiehenmkinaaaDoorWc
namespace Go.Proofs.YtpiiehenmkinaaaDoor
open Go.RowKit

end Go.Proofs.YtpiiehenmkinaaaDoor
