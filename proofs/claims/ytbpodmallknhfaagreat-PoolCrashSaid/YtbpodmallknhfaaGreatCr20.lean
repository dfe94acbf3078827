/- Parts of a proof. Conditions: as each row says. -/
import Derived.Test.YtbpodmallknhfaaGreatCr03
import Derived.Test.YtbpodmallknhfaaGreatCr19
import Derived.Test.YtbpodmallknhfaaGreatCr08
import Derived.Test.YtbpodmallknhfaaGreatCr10
import Derived.Laws.StructEq
import Derived.Lib.EndianBits
namespace Go.Proofs.YtbpodmallknhfaaGreat
open Go.RowKit
theorem Gn(w:World){t:Nat}(h:t<18446744073709551616):bA w (Wl.dn t) (.slice none 0 0) (.slice none 0 0) (.slice none 0 0) (.slice none 0 0) (.slice none 0 0):=⟨aX w,aX w,aX w,fX.eg w,gj.eg w,Wl.Gm h⟩
end Go.Proofs.YtbpodmallknhfaaGreat
