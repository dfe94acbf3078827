/- Parts of a proof. Conditions: as each row says. -/
import Derived.Test.YtbpodmallknhfaaGreatCr03
import Derived.Test.YtbpodmallknhfaaGreatCr02
import Derived.Test.YtbpodmallknhfaaGreatCr01
namespace Go.Proofs.YtbpodmallknhfaaGreat
open Go.RowKit
set_option maxHeartbeats 400000 in
theorem rS(w:World):Calls Tryz.prog 186 #[] w fun e w'=>e=.returned (.int .i64 1)/\w=w':=by
 go_enter Tryz.func186,Tryz.ntmps186;go_wp2_with (go_at_call 140;refine(Dw _ _ (by decide) (by decide)).mono ?_;rintro e w'⟨rfl,rfl⟩)
 go_ret;exact⟨rfl,rfl⟩
set_option maxHeartbeats 400000 in
theorem kr(w:World):Calls Tryz.prog 155 #[] w fun e w'=>e=.returned (.int .i64 2)/\w=w':=by
 go_enter Tryz.func155,Tryz.ntmps155;go_wp2_with (go_at_call 140;refine(BE _ _ (by decide) (by decide)).mono ?_;rintro e w'⟨rfl,rfl⟩)
 go_ret;exact⟨rfl,rfl⟩
set_option maxHeartbeats 400000 in
theorem kq(w:World):Calls Tryz.prog 157 #[] w fun e w'=>e=.returned (.int .i64 4)/\w=w':=by
 go_enter Tryz.func157,Tryz.ntmps157;go_wp2_with (go_at_call 140;refine(BD _ _ (by decide) (by decide)).mono ?_;rintro e w'⟨rfl,rfl⟩)
 go_ret;exact⟨rfl,rfl⟩
set_option maxHeartbeats 400000 in
theorem kp(w:World):Calls Tryz.prog 156 #[] w fun e w'=>e=.returned (.int .i64 8)/\w=w':=by
 go_enter Tryz.func156,Tryz.ntmps156;go_wp2_with (go_at_call 140;refine(BC _ _ (by decide) (by decide)).mono ?_;rintro e w'⟨rfl,rfl⟩)
 go_ret;exact⟨rfl,rfl⟩
set_option maxHeartbeats 400000 in
theorem eS(v:Value)(l:List Nat)(n:Nat)(w:World)(g:aV w v l)(o:l.length+n<=140737488355328):
 Calls Tryz.prog 153 #[v,.int .i64 (n:Int)] w fun e w'=>∃m,e=.returned m/\Own w.heap.size w' m l/\Below w.heap.size w w':=by
 have q:=Lib.hid g;obtain⟨p,cap,rfl,-,-,-⟩:=g.form;clear g;go_enter Tryz.func153,Tryz.ntmps153;go_upto_region 1 with(fail)
 iterate 13 go_step
 refine jK rfl (.const (.int .i64 0)) (.tmp 8) rfl w.heap.size .i64 .i64 _ (l.length+n) rfl rfl (by simp) o (Nat.le_refl _) ?_;intro v1 w1 b c;have j:=Lib.hid b;have k:=Lib.hid (q.out.below c);have f:=Lib.hid c;clear b c;iterate 3 go_step
 refine aB rfl (.tmp 9) (.tmp 10) rfl w.heap.size _ [] rfl j.out _ l rfl k.out (by simp;omega) f.out.size ?_;intro v2 w2 a d _;rw[List.nil_append]at a;have i:=Lib.hid a;have h:=Lib.hid (f.out.trans d);clear a d;go_wp2;go_ret;exact⟨_,rfl,i.out,h.out⟩
set_option maxRecDepth 100000 in
theorem F9(n:Nat):bits .or .u8 ((n:Int)%256) 128=((n%128+128:Nat):Int):=by
 have h:∀m,m<256->m|||128=m%128+128:=by decide
 rw[show((n:Int)%256)=((n%256:Nat):Int)by omega,show(128:Int)=((128:Nat):Int)from rfl,u8_or_nat _ _ (by omega) (by decide),h _ (by omega)];congr 2
 omega
set_option maxHeartbeats 800000 in
set_option maxRecDepth 20000 in
theorem rG(v:Value)(l:List Nat)(n base:Nat)(w:World)(h:Own base w v l)(o:n<18446744073709551616)(hl:l.length+10<=140737488355328)(b:base<=w.heap.size):
 Calls Tryz.prog 152 #[v,.int .u64 (n:Int)] w fun e w'=>∃q,e=.returned q/\Own base w' q (l++aw.uv n)/\Below base w w':=by
 have j:=Lib.hid h;have y:=aw.iG o;have z:=Lib.hid o;clear h o;go_enter Tryz.func152,Tryz.ntmps152;go_wp2;go_loopw [0,1] (fun s m wr=>∃(acc:List Nat)(k:Nat),k<18446744073709551616/\m=.int .u64 k/\Own base wr s (l++acc)/\acc++aw.uv k=aw.uv n/\Below base w wr) (fun _ m _=>(intOf m).toNat)
 case atStart=>exact⟨[],n,z.out,rfl,by simpa using j.out,rfl,Below.refl _ _⟩
 case round=>
  obtain⟨acc,k,t,rfl,h,hu,u⟩:=hrel;have hlen:acc.length+(aw.uv k).length<=10:=by
   rw[<-List.length_append,hu];exact y
  have r:=aw.rU k;have j:=Lib.hid h;have x:=Lib.hid hu;have i:=Lib.hid u;have A:=Lib.hid t;clear h hu u t;by_cases g:k<128
  ·go_upto_region 4 with(fail)
   iterate 13 go_step
   refine bY rfl (.tmp 15) (.tmp 18) rfl base _ (l++acc) rfl j.out rfl k (by omega) (by omega) (by simp;omega) (Nat.le_trans b i.out.size) ?_;intro v2 w2 a c;have f:=Lib.hid a;have d:=Lib.hid (i.out.trans c);clear a c;go_wp2;go_ret;refine⟨_,rfl,?_,d.out⟩;rw[<-x.out,aw.iQ g,<-List.append_assoc];exact f.out
  ·have p:=Lib.hid (F9 k);go_upto_region 3 with(fail)
   iterate 16 go_step
   refine bY rfl (.tmp 9) (.tmp 13) rfl base _ (l++acc) rfl j.out rfl (k%128+128) p.out (by omega) (by simp;omega) (Nat.le_trans b i.out.size) ?_;intro v2 w2 a c;have f:=Lib.hid a;have d:=Lib.hid (i.out.trans c);clear a c;go_wp2;go_roundw
   case rel=>
    refine⟨acc++[k%128+128],k/128,by have:=A.out;omega,by go_num,by rw[<-List.append_assoc];exact f.out,?_,d.out⟩;rw[List.append_assoc,<-x.out,aw.ou g];rfl
   case measure=>simp[intOf];omega
theorem oE(n k:Nat):(n:Int)/2^(8*k)%256=((n/256^k%256:Nat):Int):=by
 have e:(2:Nat)^(8*k)=256^k:=by rw[Nat.pow_mul]
 have a:(2:Int)^(8*k)=((256^k:Nat):Int):=by rw[<-e,Int.natCast_pow];rfl
 rw[a,<-Int.natCast_ediv];omega
set_option maxHeartbeats 800000 in
set_option maxRecDepth 20000 in
theorem yJ(v:Value)(l:List Nat)(n:Nat)(w:World)(r:aV w v l)(hl:l.length+2<=140737488355328):
 Calls Tryz.prog 117 #[v,.int .u16 (n:Int)] w fun e w'=>∃o,e=.returned o/\Own w.heap.size w' o (l++aw.le 2 n)/\Below w.heap.size w w':=by
 have z:=Lib.hid r;clear r;go_enter Tryz.func117,Tryz.ntmps117;go_wp2_with fail
 refine(kr _).mono ?_;rintro e w'⟨rfl,rfl⟩;go_wp2_with fail
 refine(eS _ l 2 _ z.out hl).mono ?_;rintro e w1⟨v1,rfl,d,c⟩;have m:=Lib.hid d;have g:=Lib.hid c;clear d c;go_wp2_with fail
 refine(kr _).mono ?_;rintro e w'⟨rfl,rfl⟩;go_wp2_with fail
 go_loopw [5,11] (fun s i wr=>∃k:Nat,k<=2/\i=.int .i64 k/\Own w.heap.size wr s (l++aw.le k n)/\Below w.heap.size w wr) (fun _ i _=>2-(intOf i).toNat)
 case atStart=>exact⟨0,by omega,rfl,by simpa[aw.le]using m.out,g.out⟩
 case round=>
  obtain⟨k,A,rfl,q,p⟩:=hrel;have t:=Lib.hid q;have h:=Lib.hid p;clear q p;by_cases u:k<2
  ·have x:=Lib.hid (oE n k);have y:=Lib.hid (aw.ao k n);go_upto_region 5 with(fail)
   iterate 22 go_step
   refine bY rfl (.tmp 14) (.tmp 20) rfl w.heap.size _ (l++aw.le k n) rfl t.out rfl (n/256^k%256) x.out (Nat.mod_lt _ (by decide)) (by rw[List.length_append,y.out];omega) h.out.size ?_;intro v2 w2 a b;have j:=Lib.hid a;have f:=Lib.hid (h.out.trans b);clear a b;go_wp2;go_roundw
   case rel=>exact⟨k+1,by omega,by go_num,by rw[aw.nZ,<-List.append_assoc];exact j.out,f.out⟩
   case measure=>simp[intOf];omega
  ·obtain rfl:k=2:=by omega
   go_wp2;go_ret;exact⟨_,rfl,t.out,h.out⟩
set_option maxHeartbeats 400000 in
set_option maxRecDepth 20000 in
theorem rK(v:Value)(l:List Nat)(n:Nat)(w:World)(g:aV w v l)(hl:l.length+2<=140737488355328):
 Calls Tryz.prog 83 #[v,.int .u16 (n:Int)] w fun e w'=>∃f,e=.returned f/\Own w.heap.size w' f (l++aw.le 2 n)/\Below w.heap.size w w':=by
 have h:=Lib.hid g;clear g;go_enter Tryz.func83,Tryz.ntmps83;go_wp2_with fail
 refine(yJ _ l n _ h.out hl).mono ?_;rintro e w1⟨v1,rfl,b,a⟩;have d:=Lib.hid b;have c:=Lib.hid a;clear b a;go_wp2;go_ret;exact⟨_,rfl,d.out,c.out⟩
set_option maxHeartbeats 800000 in
set_option maxRecDepth 20000 in
theorem yI(v:Value)(l:List Nat)(n:Nat)(w:World)(r:aV w v l)(hl:l.length+4<=140737488355328):
 Calls Tryz.prog 119 #[v,.int .u32 (n:Int)] w fun e w'=>∃o,e=.returned o/\Own w.heap.size w' o (l++aw.le 4 n)/\Below w.heap.size w w':=by
 have z:=Lib.hid r;clear r;go_enter Tryz.func119,Tryz.ntmps119;go_wp2_with fail
 refine(kq _).mono ?_;rintro e w'⟨rfl,rfl⟩;go_wp2_with fail
 refine(eS _ l 4 _ z.out hl).mono ?_;rintro e w1⟨v1,rfl,d,c⟩;have m:=Lib.hid d;have g:=Lib.hid c;clear d c;go_wp2_with fail
 refine(kq _).mono ?_;rintro e w'⟨rfl,rfl⟩;go_wp2_with fail
 go_loopw [5,11] (fun s i wr=>∃k:Nat,k<=4/\i=.int .i64 k/\Own w.heap.size wr s (l++aw.le k n)/\Below w.heap.size w wr) (fun _ i _=>4-(intOf i).toNat)
 case atStart=>exact⟨0,by omega,rfl,by simpa[aw.le]using m.out,g.out⟩
 case round=>
  obtain⟨k,A,rfl,q,p⟩:=hrel;have t:=Lib.hid q;have h:=Lib.hid p;clear q p;by_cases u:k<4
  ·have x:=Lib.hid (oE n k);have y:=Lib.hid (aw.ao k n);go_upto_region 5 with(fail)
   iterate 22 go_step
   refine bY rfl (.tmp 14) (.tmp 20) rfl w.heap.size _ (l++aw.le k n) rfl t.out rfl (n/256^k%256) x.out (Nat.mod_lt _ (by decide)) (by rw[List.length_append,y.out];omega) h.out.size ?_;intro v2 w2 a b;have j:=Lib.hid a;have f:=Lib.hid (h.out.trans b);clear a b;go_wp2;go_roundw
   case rel=>exact⟨k+1,by omega,by go_num,by rw[aw.nZ,<-List.append_assoc];exact j.out,f.out⟩
   case measure=>simp[intOf];omega
  ·obtain rfl:k=4:=by omega
   go_wp2;go_ret;exact⟨_,rfl,t.out,h.out⟩
set_option maxHeartbeats 400000 in
set_option maxRecDepth 20000 in
theorem de(v:Value)(l:List Nat)(n:Nat)(w:World)(g:aV w v l)(hl:l.length+4<=140737488355328):
 Calls Tryz.prog 85 #[v,.int .u32 (n:Int)] w fun e w'=>∃f,e=.returned f/\Own w.heap.size w' f (l++aw.le 4 n)/\Below w.heap.size w w':=by
 have h:=Lib.hid g;clear g;go_enter Tryz.func85,Tryz.ntmps85;go_wp2_with fail
 refine(yI _ l n _ h.out hl).mono ?_;rintro e w1⟨v1,rfl,b,a⟩;have d:=Lib.hid b;have c:=Lib.hid a;clear b a;go_wp2;go_ret;exact⟨_,rfl,d.out,c.out⟩
set_option maxHeartbeats 800000 in
set_option maxRecDepth 20000 in
theorem yH(v:Value)(l:List Nat)(n:Nat)(w:World)(r:aV w v l)(hl:l.length+8<=140737488355328):
 Calls Tryz.prog 118 #[v,.int .u64 (n:Int)] w fun e w'=>∃o,e=.returned o/\Own w.heap.size w' o (l++aw.le 8 n)/\Below w.heap.size w w':=by
 have z:=Lib.hid r;clear r;go_enter Tryz.func118,Tryz.ntmps118;go_wp2_with fail
 refine(kp _).mono ?_;rintro e w'⟨rfl,rfl⟩;go_wp2_with fail
 refine(eS _ l 8 _ z.out hl).mono ?_;rintro e w1⟨v1,rfl,d,c⟩;have m:=Lib.hid d;have g:=Lib.hid c;clear d c;go_wp2_with fail
 refine(kp _).mono ?_;rintro e w'⟨rfl,rfl⟩;go_wp2_with fail
 go_loopw [5,11] (fun s i wr=>∃k:Nat,k<=8/\i=.int .i64 k/\Own w.heap.size wr s (l++aw.le k n)/\Below w.heap.size w wr) (fun _ i _=>8-(intOf i).toNat)
 case atStart=>exact⟨0,by omega,rfl,by simpa[aw.le]using m.out,g.out⟩
 case round=>
  obtain⟨k,A,rfl,q,p⟩:=hrel;have t:=Lib.hid q;have h:=Lib.hid p;clear q p;by_cases u:k<8
  ·have x:=Lib.hid (oE n k);have y:=Lib.hid (aw.ao k n);go_upto_region 5 with(fail)
   iterate 22 go_step
   refine bY rfl (.tmp 14) (.tmp 20) rfl w.heap.size _ (l++aw.le k n) rfl t.out rfl (n/256^k%256) x.out (Nat.mod_lt _ (by decide)) (by rw[List.length_append,y.out];omega) h.out.size ?_;intro v2 w2 a b;have j:=Lib.hid a;have f:=Lib.hid (h.out.trans b);clear a b;go_wp2;go_roundw
   case rel=>exact⟨k+1,by omega,by go_num,by rw[aw.nZ,<-List.append_assoc];exact j.out,f.out⟩
   case measure=>simp[intOf];omega
  ·obtain rfl:k=8:=by omega
   go_wp2;go_ret;exact⟨_,rfl,t.out,h.out⟩
set_option maxHeartbeats 400000 in
set_option maxRecDepth 20000 in
theorem fw(v:Value)(l:List Nat)(n:Nat)(w:World)(g:aV w v l)(hl:l.length+8<=140737488355328):
 Calls Tryz.prog 84 #[v,.int .u64 (n:Int)] w fun e w'=>∃f,e=.returned f/\Own w.heap.size w' f (l++aw.le 8 n)/\Below w.heap.size w w':=by
 have h:=Lib.hid g;clear g;go_enter Tryz.func84,Tryz.ntmps84;go_wp2_with fail
 refine(yH _ l n _ h.out hl).mono ?_;rintro e w1⟨v1,rfl,b,a⟩;have d:=Lib.hid b;have c:=Lib.hid a;clear b a;go_wp2;go_ret;exact⟨_,rfl,d.out,c.out⟩
set_option maxHeartbeats 400000 in
set_option maxRecDepth 20000 in
theorem rI(v:Value)(l:List Nat)(n:Nat)(w:World)(m:aV w v l)(k:n<18446744073709551616)(hl:l.length+10<=140737488355328):
 Calls Tryz.prog 154 #[v,.int .u64 (n:Int)] w fun e w'=>∃j,e=.returned j/\Own w.heap.size w' j (l++aw.uv n)/\Below w.heap.size w w':=by
 have p:=Lib.hid m;have o:=Lib.hid k;clear m k;go_enter Tryz.func154,Tryz.ntmps154;go_wp2_with fail
 refine(eS _ l 10 _ p.out hl).mono ?_;rintro e w1⟨v1,rfl,d,b⟩;have i:=Lib.hid d;have f:=Lib.hid b;clear d b;go_wp2_with fail
 refine(rG _ l n w.heap.size _ i.out o.out hl f.out.size).mono ?_;rintro e w2⟨v2,rfl,c,a⟩;have h:=Lib.hid c;have g:=Lib.hid (f.out.trans a);clear c a;go_wp2;go_ret;exact⟨_,rfl,h.out,g.out⟩
set_option maxHeartbeats 800000 in
set_option maxRecDepth 20000 in
theorem iF(v s:Value)(l t:List Nat)(w:World)(u:aV w v l)(j:aV w s t)(hl:l.length+10+t.length<=140737488355328):
 Calls Tryz.prog 113 #[v,s] w fun e w'=>∃r,e=.returned r/\Own w.heap.size w' r (l++(aw.uv t.length++t))/\Below w.heap.size w w':=by
 have z:=Lib.hid u;have y:=Lib.hid j;obtain⟨p,cap,rfl,-,-,-⟩:=j.form;have x:=Lib.hid (aw.iG (n:=t.length) (by omega));clear u j;go_enter Tryz.func113,Tryz.ntmps113;go_wp2_with fail
 refine(eS _ l (10+t.length) _ z.out (by omega)).mono ?_;rintro e w1⟨v1,rfl,h,f⟩;have q:=Lib.hid h;have i:=Lib.hid f;clear h f;go_wp2_with fail
 refine(rG _ l t.length w.heap.size _ q.out (by omega) (by omega) i.out.size).mono ?_;rintro e w2⟨v2,rfl,g,d⟩;have o:=Lib.hid g;have b:=Lib.hid (i.out.trans d);clear g d;go_upto_region 2 with(fail)
 iterate 7 go_step
 refine aB rfl (.tmp 15) (.tmp 16) rfl w.heap.size _ _ rfl o.out _ t rfl (y.out.below b.out) (by have:=x.out;simp;omega) b.out.size ?_;intro v3 w3 a c _;rw[List.append_assoc]at a;have m:=Lib.hid a;have k:=Lib.hid (b.out.trans c);clear a c;go_wp2;go_ret;exact⟨_,rfl,m.out,k.out⟩
end Go.Proofs.YtbpodmallknhfaaGreat
