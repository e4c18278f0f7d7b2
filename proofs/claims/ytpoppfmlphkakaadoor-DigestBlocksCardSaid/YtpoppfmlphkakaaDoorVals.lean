/-
  PUBLISHED VALUES: the plain SHA-256 and HMAC-SHA256 at the examples of 'alive'.
-/
import Derived.Test.YtpoppfmlphkakaaDoorHex
import Derived.Test.YtpoppfmlphkakaaDoorTag2
namespace Go.Proofs.YtpoppfmlphkakaaDoor
set_option maxRecDepth 100000

theorem sha_abc : (hexS (shaB [97, 98, 99])).1 = [98, 97, 55, 56, 49, 54, 98, 102, 56, 102, 48, 49, 99, 102, 101, 97, 52, 49, 52, 49, 52, 48, 100, 101, 53, 100, 97, 101, 50, 50, 50, 51, 98, 48, 48, 51, 54, 49, 97, 51, 57, 54, 49, 55, 55, 97, 57, 99, 98, 52, 49, 48, 102, 102, 54, 49, 102, 50, 48, 48, 49, 53, 97, 100] := by decide +kernel
theorem tag_jefe : (hexS (tagB [74, 101, 102, 101] [119, 104, 97, 116, 32, 100, 111, 32, 121, 97, 32, 119, 97, 110, 116, 32, 102, 111, 114, 32, 110, 111, 116, 104, 105, 110, 103, 63])).1 = [53, 98, 100, 99, 99, 49, 52, 54, 98, 102, 54, 48, 55, 53, 52, 101, 54, 97, 48, 52, 50, 52, 50, 54, 48, 56, 57, 53, 55, 53, 99, 55, 53, 97, 48, 48, 51, 102, 48, 56, 57, 100, 50, 55, 51, 57, 56, 51, 57, 100, 101, 99, 53, 56, 98, 57, 54, 52, 101, 99, 51, 56, 52, 51] := by decide +kernel
end Go.Proofs.YtpoppfmlphkakaaDoor
