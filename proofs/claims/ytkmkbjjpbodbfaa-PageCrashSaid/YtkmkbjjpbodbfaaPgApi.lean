/- The program's pages as bytes do what the laws ask of them. Conditions: none. -/
import Derived.Test.YtkmkbjjpbodbfaaPgOpen
import Derived.Test.YtkmkbjjpbodbfaaPageKnown
namespace Go.Proofs.Ytkmkbjjpbodbfaa
open Go.RowKit
theorem pgApi : PgApi where
  bytes := fun n m l w _ hB => bytes_any n m l w hB
  opens := fun m b w hB => open_any m b w hB
  blank := fun w => blank_page w
end Go.Proofs.Ytkmkbjjpbodbfaa
