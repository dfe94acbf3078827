/- Parts of a proof. Conditions: as each row says. -/
import Derived.Test.YtbpodmallknhfaaGreatRows
import Derived.Lib.Strings
import Derived.Lib.Slices
import Derived.Lib.Small
import Derived.Lib.Walk
import Derived.Lib.BitFns
import Derived.Test.YtbpodmallknhfaaGreatPlA0
import Derived.Test.YtbpodmallknhfaaGreatPlA7
namespace Go.Proofs.YtbpodmallknhfaaGreat
set_option maxHeartbeats 400000 in
set_option maxRecDepth 100000 in
theorem AR(x:Int)(w:World)(h0:65535<=x)(a:x<=65535):Calls Tryz.prog 140 #[.int .u64 x] w fun e w'=>e=.returned (.int .i64 16)/\w=w':=by
 go_enter Tryz.func140,Tryz.ntmps140;go_wp2;go_ret;refine⟨Ho Ending.returned (Ho (Value.int IntKind.i64) ?_),rfl⟩;have e:x/256%256=255:=by omega
 rw[Lib.len8_of (x/256%256) (by omega) (by omega),e];decide
set_option maxHeartbeats 400000 in
set_option maxRecDepth 100000 in
theorem AQ(x:Int)(w:World)(h0:4294967295<=x)(a:x<=4294967295):Calls Tryz.prog 140 #[.int .u64 x] w fun e w'=>e=.returned (.int .i64 32)/\w=w':=by
 go_enter Tryz.func140,Tryz.ntmps140;go_wp2;go_ret;refine⟨Ho Ending.returned (Ho (Value.int IntKind.i64) ?_),rfl⟩;have e:x/65536/256%256=255:=by omega
 rw[Lib.len8_of (x/65536/256%256) (by omega) (by omega),e];decide
set_option maxHeartbeats 400000 in
set_option maxRecDepth 100000 in
theorem AP(x:Int)(w:World)(h0:18446744073709551615<=x)(a:x<=18446744073709551615):Calls Tryz.prog 140 #[.int .u64 x] w fun e w'=>e=.returned (.int .i64 64)/\w=w':=by
 go_enter Tryz.func140,Tryz.ntmps140;go_wp2;go_ret;refine⟨Ho Ending.returned (Ho (Value.int IntKind.i64) ?_),rfl⟩;have e:x/4294967296/65536/256%256=255:=by omega
 rw[Lib.len8_of (x/4294967296/65536/256%256) (by omega) (by omega),e];decide
end Go.Proofs.YtbpodmallknhfaaGreat
