/- Parts of a proof. Conditions: as each row says. -/
import Derived.Test.YtbpodmallknhfaaGreatCr26
import Derived.Test.YtbpodmallknhfaaGreatCr09
import Derived.Test.YtbpodmallknhfaaGreatCr14
namespace Go.Proofs.YtbpodmallknhfaaGreat
open Go.RowKit
def gB(U:Nat->Prop)(w:World)(B:Nat)(d:Dk.aq):Prop:=∃b a,bh w B b a d/\U=DS B b a
theorem Az{U T:Nat->Prop}{w w':World}{B:Nat}{d:Dk.aq}(h:gB U w B d)(c:Touch T w w')(hs:∀i,U i->¬T i):gB U w' B d:=by
 obtain⟨b,a,h,rfl⟩:=h;exact⟨b,a,h.bQ c hs,rfl⟩
theorem Ep{U:Nat->Prop}{w:World}{B:Nat}{d:Dk.aq}(h:gB U w B d):∀i,U i->i<w.heap.size:=by
 obtain⟨b,a,h,rfl⟩:=h;exact h.lt
theorem Eo(n:Nat)(w:World)(h:1<=n)(g:n<=65536):Calls Tryz.prog 15 #[.int .i64 n,.int .i64 n] w fun e w'=>
 ∃B U,e=.returned (.tuple #[.pointer (some ⟨B,0,none⟩),.int .i64 0])/\gB U w' B (Dk.fresh n n)/\(∀i,U i->w.heap.size<=i)/\Below w.heap.size w w':=
 (sB n n w h g (Nat.le_refl _)).mono fun _ _⟨B,b,a,he,f,d,c⟩=>⟨B,DS B b a,he,⟨b,a,f,rfl⟩,d,c⟩
theorem AA{U:Nat->Prop}{w:World}{B:Nat}{d:Dk.aq}(v:Value)(a:List Nat)(h:gB U w B d)(n:aV w v a)(j:0<a.length->∀g,v.ownBlock=some g->¬U g):
 Calls Tryz.prog 31 #[.pointer (some ⟨B,0,none⟩),v] w fun e w'=>e=.returned (.int .i64 0)/\∃f,gB f w' B (Dk.ay d a)/\Touch U w w'/\br U f w:=by
 obtain⟨c,b,h,rfl⟩:=h;exact(zH h v a n j).mono fun _ _⟨he,m,k⟩=>⟨he,DS B c b,⟨c,b,m,rfl⟩,k,fun i l=>Or.inl l⟩
end Go.Proofs.YtbpodmallknhfaaGreat
