/- The program's slots answer as the laws ask. Conditions: none. -/
import Derived.Test.YtbfpmpomcaijcaaSpBytes
import Derived.Test.YtbfpmpomcaijcaaSpRoom
import Derived.Test.YtbfpmpomcaijcaaSpRead
import Derived.Test.YtbfpmpomcaijcaaSpIns
import Derived.Test.YtbfpmpomcaijcaaSpPut
import Derived.Test.YtbfpmpomcaijcaaSpDel
namespace Go.Proofs.Ytbfpmpomcaijcaa

theorem slApi : SlApi where
  may := fun h hs => pMay_any _ _ _ _ h hs
  bytes := fun h hs => pBytes_any _ _ _ _ h hs
  room := fun h hs => pRoom_any _ _ _ _ h hs
  read := fun h _ => pRead_any _ _ _ h
  insert := fun h hs hB hb => pInsert_any _ _ _ _ _ _ h hs hB hb
  put := fun a h hs hB hb => pPut_any _ _ _ _ a _ _ h hs hB hb
  delete := fun a h hs => pDelete_any _ _ _ a _ h hs
  get := fun a h hs => pGet_any _ _ _ a _ h hs
end Go.Proofs.Ytbfpmpomcaijcaa
