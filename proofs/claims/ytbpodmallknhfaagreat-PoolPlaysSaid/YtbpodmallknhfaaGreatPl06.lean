/- Parts of a proof. Conditions: as each row says. -/
import Derived.Test.YtbpodmallknhfaaGreatPl03
import Derived.Test.YtbpodmallknhfaaGreatPl02
import Derived.Test.YtbpodmallknhfaaGreatPl01
namespace Go.Proofs.YtbpodmallknhfaaGreat
open Go.RowKit
set_option maxHeartbeats 400000 in
theorem wj(w:World):Calls Tryz.prog 155 #[] w fun e w'=>e=.returned (.int .i64 2)/\w=w':=by
 go_enter Tryz.func155,Tryz.ntmps155;go_wp2_with (go_at_call 140;refine(AR _ _ (by decide) (by decide)).mono ?_;rintro e w'⟨rfl,rfl⟩)
 go_ret;exact⟨rfl,rfl⟩
set_option maxHeartbeats 400000 in
theorem j2(w:World):Calls Tryz.prog 157 #[] w fun e w'=>e=.returned (.int .i64 4)/\w=w':=by
 go_enter Tryz.func157,Tryz.ntmps157;go_wp2_with (go_at_call 140;refine(AQ _ _ (by decide) (by decide)).mono ?_;rintro e w'⟨rfl,rfl⟩)
 go_ret;exact⟨rfl,rfl⟩
set_option maxHeartbeats 400000 in
theorem j1(w:World):Calls Tryz.prog 156 #[] w fun e w'=>e=.returned (.int .i64 8)/\w=w':=by
 go_enter Tryz.func156,Tryz.ntmps156;go_wp2_with (go_at_call 140;refine(AP _ _ (by decide) (by decide)).mono ?_;rintro e w'⟨rfl,rfl⟩)
 go_ret;exact⟨rfl,rfl⟩
set_option maxHeartbeats 400000 in
theorem eS(v:Value)(l:List Nat)(n:Nat)(w:World)(g:aJ w v l)(o:l.length+n<=140737488355328):
 Calls Tryz.prog 153 #[v,.int .i64 (n:Int)] w fun e w'=>∃m,e=.returned m/\Own w.heap.size w' m l/\Below w.heap.size w w':=by
 have q:=GD g;obtain⟨p,cap,rfl,-,-,-⟩:=g.form;clear g;go_enter Tryz.func153,Tryz.ntmps153;go_upto_region 1 with(fail)
 iterate 13 go_step
 refine jt rfl (.const (.int .i64 0)) (.tmp 8) rfl w.heap.size .i64 .i64 _ (l.length+n) rfl rfl (by simp) o (GH _) ?_;intro v1 w1 b c;have j:=GD b;have k:=GD (q.out.below c);have f:=GD c;clear b c;iterate 3 go_step
 refine aA rfl (.tmp 9) (.tmp 10) rfl w.heap.size _ [] rfl j.out _ l rfl k.out (by simp;omega) f.out.size ?_;intro v2 w2 a d _;rw[Hg]at a;have i:=GD a;have h:=GD (f.out.trans d);clear a d;go_wp2;go_ret;exact⟨_,rfl,i.out,h.out⟩
set_option maxRecDepth 100000 in
theorem EC(n:Nat):bits .or .u8 ((n:Int)%256) 128=((n%128+128:Nat):Int):=by
 have h:∀m,m<256->m|||128=m%128+128:=by decide
 rw[show((n:Int)%256)=((n%256:Nat):Int)by omega,show(128:Int)=((128:Nat):Int)from rfl,u8_or_nat _ _ (by omega) (by decide),h _ (by omega)];congr 2
 omega
set_option maxHeartbeats 800000 in
set_option maxRecDepth 20000 in
theorem qE(v:Value)(l:List Nat)(n base:Nat)(w:World)(g:Own base w v l)(j:n<18446744073709551616)(hl:l.length+10<=140737488355328)(b:base<=w.heap.size):
 Calls Tryz.prog 152 #[v,.int .u64 (n:Int)] w fun e w'=>∃p,e=.returned p/\Own base w' p (l++aH.uv n)/\Below base w w':=by
 have i:=GD g;have x:=aH.iF j;have y:=GD j;clear g j;go_enter Tryz.func152,Tryz.ntmps152;go_wp2;go_loopw [0,1] (fun s m wr=>∃(acc:List Nat)(k:Nat),k<18446744073709551616/\m=.int .u64 k/\Own base wr s (l++acc)/\acc++aH.uv k=aH.uv n/\Below base w wr) (fun _ m _=>(intOf m).toNat)
 case atStart=>exact⟨[],n,y.out,rfl,by simpa using i.out,rfl,GF _ _⟩
 case round=>
  obtain⟨acc,k,r,rfl,g,hu,t⟩:=hrel;have hlen:acc.length+(aH.uv k).length<=10:=by
   rw[<-GI,hu];exact x
  have q:=aH.Dc k;have i:=GD g;have u:=GD hu;have h:=GD t;have z:=GD r;clear g hu t r;by_cases hlt:k<128
  ·go_upto_region 4 with(fail)
   iterate 13 go_step
   refine bU rfl (.tmp 15) (.tmp 18) rfl base _ (l++acc) rfl i.out rfl k (by omega) (by omega) (by simp;omega) (GR b h.out.size) ?_;intro v2 w2 a c;have f:=GD a;have d:=GD (h.out.trans c);clear a c;go_wp2;go_ret;refine⟨_,rfl,?_,d.out⟩;rw[<-u.out,aH.jB hlt,<-G3];exact f.out
  ·have o:=GD (EC k);go_upto_region 3 with(fail)
   iterate 16 go_step
   refine bU rfl (.tmp 9) (.tmp 13) rfl base _ (l++acc) rfl i.out rfl (k%128+128) o.out (by omega) (by simp;omega) (GR b h.out.size) ?_;intro v2 w2 a c;have f:=GD a;have d:=GD (h.out.trans c);clear a c;go_wp2;go_roundw
   case rel=>
    refine⟨acc++[k%128+128],k/128,by have:=z.out;omega,by go_num,by rw[<-G3];exact f.out,?_,d.out⟩;rw[G3,<-u.out,aH.qR hlt];rfl
   case measure=>simp[intOf];omega
theorem nM(n k:Nat):(n:Int)/2^(8*k)%256=((n/256^k%256:Nat):Int):=by
 have e:(2:Nat)^(8*k)=256^k:=by rw[Nat.pow_mul]
 have a:(2:Int)^(8*k)=((256^k:Nat):Int):=by rw[<-e,Int.natCast_pow];rfl
 rw[a,<-Int.natCast_ediv];omega
set_option maxHeartbeats 800000 in
set_option maxRecDepth 20000 in
theorem xF(v:Value)(l:List Nat)(n:Nat)(w:World)(r:aJ w v l)(hl:l.length+2<=140737488355328):
 Calls Tryz.prog 117 #[v,.int .u16 (n:Int)] w fun e w'=>∃o,e=.returned o/\Own w.heap.size w' o (l++aH.le 2 n)/\Below w.heap.size w w':=by
 have y:=GD r;clear r;go_enter Tryz.func117,Tryz.ntmps117;go_wp2_with fail
 refine(wj _).mono ?_;rintro e w'⟨rfl,rfl⟩;go_wp2_with fail
 refine(eS _ l 2 _ y.out hl).mono ?_;rintro e w1⟨v1,rfl,d,c⟩;have m:=GD d;have g:=GD c;clear d c;go_wp2_with fail
 refine(wj _).mono ?_;rintro e w'⟨rfl,rfl⟩;go_wp2_with fail
 go_loopw [5,11] (fun s i wr=>∃k:Nat,k<=2/\i=.int .i64 k/\Own w.heap.size wr s (l++aH.le k n)/\Below w.heap.size w wr) (fun _ i _=>2-(intOf i).toNat)
 case atStart=>exact⟨0,by omega,rfl,by simpa[aH.le]using m.out,g.out⟩
 case round=>
  obtain⟨k,z,rfl,q,p⟩:=hrel;have t:=GD q;have h:=GD p;clear q p;by_cases hlt:k<2
  ·have u:=GD (nM n k);have x:=GD (aH.al k n);go_upto_region 5 with(fail)
   iterate 22 go_step
   refine bU rfl (.tmp 14) (.tmp 20) rfl w.heap.size _ (l++aH.le k n) rfl t.out rfl (n/256^k%256) u.out (Nat.mod_lt _ (by decide)) (by rw[GI,x.out];omega) h.out.size ?_;intro v2 w2 a b;have j:=GD a;have f:=GD (h.out.trans b);clear a b;go_wp2;go_roundw
   case rel=>exact⟨k+1,by omega,by go_num,by rw[aH.ni,<-G3];exact j.out,f.out⟩
   case measure=>simp[intOf];omega
  ·obtain rfl:k=2:=by omega
   go_wp2;go_ret;exact⟨_,rfl,t.out,h.out⟩
set_option maxHeartbeats 400000 in
set_option maxRecDepth 20000 in
theorem qH(v:Value)(l:List Nat)(n:Nat)(w:World)(g:aJ w v l)(hl:l.length+2<=140737488355328):
 Calls Tryz.prog 83 #[v,.int .u16 (n:Int)] w fun e w'=>∃f,e=.returned f/\Own w.heap.size w' f (l++aH.le 2 n)/\Below w.heap.size w w':=by
 have h:=GD g;clear g;go_enter Tryz.func83,Tryz.ntmps83;go_wp2_with fail
 refine(xF _ l n _ h.out hl).mono ?_;rintro e w1⟨v1,rfl,b,a⟩;have d:=GD b;have c:=GD a;clear b a;go_wp2;go_ret;exact⟨_,rfl,d.out,c.out⟩
set_option maxHeartbeats 800000 in
set_option maxRecDepth 20000 in
theorem xE(v:Value)(l:List Nat)(n:Nat)(w:World)(r:aJ w v l)(hl:l.length+4<=140737488355328):
 Calls Tryz.prog 119 #[v,.int .u32 (n:Int)] w fun e w'=>∃o,e=.returned o/\Own w.heap.size w' o (l++aH.le 4 n)/\Below w.heap.size w w':=by
 have y:=GD r;clear r;go_enter Tryz.func119,Tryz.ntmps119;go_wp2_with fail
 refine(j2 _).mono ?_;rintro e w'⟨rfl,rfl⟩;go_wp2_with fail
 refine(eS _ l 4 _ y.out hl).mono ?_;rintro e w1⟨v1,rfl,d,c⟩;have m:=GD d;have g:=GD c;clear d c;go_wp2_with fail
 refine(j2 _).mono ?_;rintro e w'⟨rfl,rfl⟩;go_wp2_with fail
 go_loopw [5,11] (fun s i wr=>∃k:Nat,k<=4/\i=.int .i64 k/\Own w.heap.size wr s (l++aH.le k n)/\Below w.heap.size w wr) (fun _ i _=>4-(intOf i).toNat)
 case atStart=>exact⟨0,by omega,rfl,by simpa[aH.le]using m.out,g.out⟩
 case round=>
  obtain⟨k,z,rfl,q,p⟩:=hrel;have t:=GD q;have h:=GD p;clear q p;by_cases hlt:k<4
  ·have u:=GD (nM n k);have x:=GD (aH.al k n);go_upto_region 5 with(fail)
   iterate 22 go_step
   refine bU rfl (.tmp 14) (.tmp 20) rfl w.heap.size _ (l++aH.le k n) rfl t.out rfl (n/256^k%256) u.out (Nat.mod_lt _ (by decide)) (by rw[GI,x.out];omega) h.out.size ?_;intro v2 w2 a b;have j:=GD a;have f:=GD (h.out.trans b);clear a b;go_wp2;go_roundw
   case rel=>exact⟨k+1,by omega,by go_num,by rw[aH.ni,<-G3];exact j.out,f.out⟩
   case measure=>simp[intOf];omega
  ·obtain rfl:k=4:=by omega
   go_wp2;go_ret;exact⟨_,rfl,t.out,h.out⟩
set_option maxHeartbeats 400000 in
set_option maxRecDepth 20000 in
theorem da(v:Value)(l:List Nat)(n:Nat)(w:World)(g:aJ w v l)(hl:l.length+4<=140737488355328):
 Calls Tryz.prog 85 #[v,.int .u32 (n:Int)] w fun e w'=>∃f,e=.returned f/\Own w.heap.size w' f (l++aH.le 4 n)/\Below w.heap.size w w':=by
 have h:=GD g;clear g;go_enter Tryz.func85,Tryz.ntmps85;go_wp2_with fail
 refine(xE _ l n _ h.out hl).mono ?_;rintro e w1⟨v1,rfl,b,a⟩;have d:=GD b;have c:=GD a;clear b a;go_wp2;go_ret;exact⟨_,rfl,d.out,c.out⟩
set_option maxHeartbeats 800000 in
set_option maxRecDepth 20000 in
theorem xD(v:Value)(l:List Nat)(n:Nat)(w:World)(r:aJ w v l)(hl:l.length+8<=140737488355328):
 Calls Tryz.prog 118 #[v,.int .u64 (n:Int)] w fun e w'=>∃o,e=.returned o/\Own w.heap.size w' o (l++aH.le 8 n)/\Below w.heap.size w w':=by
 have y:=GD r;clear r;go_enter Tryz.func118,Tryz.ntmps118;go_wp2_with fail
 refine(j1 _).mono ?_;rintro e w'⟨rfl,rfl⟩;go_wp2_with fail
 refine(eS _ l 8 _ y.out hl).mono ?_;rintro e w1⟨v1,rfl,d,c⟩;have m:=GD d;have g:=GD c;clear d c;go_wp2_with fail
 refine(j1 _).mono ?_;rintro e w'⟨rfl,rfl⟩;go_wp2_with fail
 go_loopw [5,11] (fun s i wr=>∃k:Nat,k<=8/\i=.int .i64 k/\Own w.heap.size wr s (l++aH.le k n)/\Below w.heap.size w wr) (fun _ i _=>8-(intOf i).toNat)
 case atStart=>exact⟨0,by omega,rfl,by simpa[aH.le]using m.out,g.out⟩
 case round=>
  obtain⟨k,z,rfl,q,p⟩:=hrel;have t:=GD q;have h:=GD p;clear q p;by_cases hlt:k<8
  ·have u:=GD (nM n k);have x:=GD (aH.al k n);go_upto_region 5 with(fail)
   iterate 22 go_step
   refine bU rfl (.tmp 14) (.tmp 20) rfl w.heap.size _ (l++aH.le k n) rfl t.out rfl (n/256^k%256) u.out (Nat.mod_lt _ (by decide)) (by rw[GI,x.out];omega) h.out.size ?_;intro v2 w2 a b;have j:=GD a;have f:=GD (h.out.trans b);clear a b;go_wp2;go_roundw
   case rel=>exact⟨k+1,by omega,by go_num,by rw[aH.ni,<-G3];exact j.out,f.out⟩
   case measure=>simp[intOf];omega
  ·obtain rfl:k=8:=by omega
   go_wp2;go_ret;exact⟨_,rfl,t.out,h.out⟩
set_option maxHeartbeats 400000 in
set_option maxRecDepth 20000 in
theorem fE(v:Value)(l:List Nat)(n:Nat)(w:World)(g:aJ w v l)(hl:l.length+8<=140737488355328):
 Calls Tryz.prog 84 #[v,.int .u64 (n:Int)] w fun e w'=>∃f,e=.returned f/\Own w.heap.size w' f (l++aH.le 8 n)/\Below w.heap.size w w':=by
 have h:=GD g;clear g;go_enter Tryz.func84,Tryz.ntmps84;go_wp2_with fail
 refine(xD _ l n _ h.out hl).mono ?_;rintro e w1⟨v1,rfl,b,a⟩;have d:=GD b;have c:=GD a;clear b a;go_wp2;go_ret;exact⟨_,rfl,d.out,c.out⟩
set_option maxHeartbeats 400000 in
set_option maxRecDepth 20000 in
theorem qG(v:Value)(l:List Nat)(n:Nat)(w:World)(m:aJ w v l)(k:n<18446744073709551616)(hl:l.length+10<=140737488355328):
 Calls Tryz.prog 154 #[v,.int .u64 (n:Int)] w fun e w'=>∃j,e=.returned j/\Own w.heap.size w' j (l++aH.uv n)/\Below w.heap.size w w':=by
 have p:=GD m;have o:=GD k;clear m k;go_enter Tryz.func154,Tryz.ntmps154;go_wp2_with fail
 refine(eS _ l 10 _ p.out hl).mono ?_;rintro e w1⟨v1,rfl,d,b⟩;have i:=GD d;have f:=GD b;clear d b;go_wp2_with fail
 refine(qE _ l n w.heap.size _ i.out o.out hl f.out.size).mono ?_;rintro e w2⟨v2,rfl,c,a⟩;have h:=GD c;have g:=GD (f.out.trans a);clear c a;go_wp2;go_ret;exact⟨_,rfl,h.out,g.out⟩
set_option maxHeartbeats 800000 in
set_option maxRecDepth 20000 in
theorem iD(v s:Value)(l t:List Nat)(w:World)(u:aJ w v l)(j:aJ w s t)(hl:l.length+10+t.length<=140737488355328):
 Calls Tryz.prog 113 #[v,s] w fun e w'=>∃r,e=.returned r/\Own w.heap.size w' r (l++(aH.uv t.length++t))/\Below w.heap.size w w':=by
 have z:=GD u;have y:=GD j;obtain⟨p,cap,rfl,-,-,-⟩:=j.form;have x:=GD (aH.iF (n:=t.length) (by omega));clear u j;go_enter Tryz.func113,Tryz.ntmps113;go_wp2_with fail
 refine(eS _ l (10+t.length) _ z.out (by omega)).mono ?_;rintro e w1⟨v1,rfl,h,f⟩;have q:=GD h;have i:=GD f;clear h f;go_wp2_with fail
 refine(qE _ l t.length w.heap.size _ q.out (by omega) (by omega) i.out.size).mono ?_;rintro e w2⟨v2,rfl,g,d⟩;have o:=GD g;have b:=GD (i.out.trans d);clear g d;go_upto_region 2 with(fail)
 iterate 7 go_step
 refine aA rfl (.tmp 15) (.tmp 16) rfl w.heap.size _ _ rfl o.out _ t rfl (y.out.below b.out) (by have:=x.out;simp;omega) b.out.size ?_;intro v3 A a c _;rw[G3]at a;have m:=GD a;have k:=GD (b.out.trans c);clear a c;go_wp2;go_ret;exact⟨_,rfl,m.out,k.out⟩
end Go.Proofs.YtbpodmallknhfaaGreat
