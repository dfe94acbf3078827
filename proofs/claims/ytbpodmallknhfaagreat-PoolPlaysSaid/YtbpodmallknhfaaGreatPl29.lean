/- Parts of a proof. Conditions: as each row says. -/
import Derived.Test.YtbpodmallknhfaaGreatPl28
import Derived.Test.YtbpodmallknhfaaGreatPl09
import Derived.Test.YtbpodmallknhfaaGreatPl14
namespace Go.Proofs.YtbpodmallknhfaaGreat
open Go.RowKit
def m7(U:Nat->Prop)(w:World)(B:Nat)(d:Dk.ak):Prop:=∃b a,bc w B b a d/\U=DS B b a
theorem C7(n:Nat)(w:World)(h:1<=n)(g:n<=65536):Calls Tryz.prog 15 #[.int .i64 n,.int .i64 n] w fun e w'=>
 ∃B U,e=.returned (.tuple #[.pointer (some ⟨B,0,none⟩),.int .i64 0])/\m7 U w' B (Dk.fresh n n)/\(∀i,U i->w.heap.size<=i)/\Below w.heap.size w w':=
 (ru n n w h g (GH _)).mono fun _ _⟨B,b,a,he,f,d,c⟩=>⟨B,DS B b a,he,⟨b,a,f,rfl⟩,d,c⟩
end Go.Proofs.YtbpodmallknhfaaGreat
