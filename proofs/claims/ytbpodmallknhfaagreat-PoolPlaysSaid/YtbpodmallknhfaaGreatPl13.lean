/- Parts of a proof. Conditions: as each row says. -/
import Derived.Test.YtbpodmallknhfaaGreatPl03
import Derived.Test.YtbpodmallknhfaaGreatPl10
import Derived.Test.YtbpodmallknhfaaGreatRows
import Derived.WalkKit
import Derived.WalkSpells
import Derived.WalkLawsBesides
import Derived.Lib.Hide
import Derived.Deep.WholeRow
import Derived.Deep.LoopGhost
import Derived.Deep.DeepCutAuto
import Derived.Deep.CutBlock
namespace Go.Proofs.YtbpodmallknhfaaGreat
open Go.RowKit
theorem wX(x:Nat)(a:x<4294967296):bits .and .u32 (x:Int) 1=((x%2:Nat):Int):=by
 have h:=u32_and_nat x 1 a (by decide);rw[show((1:Nat):Int)=(1:Int)from rfl]at h;rw[h,Nat.and_one_is_mod]
theorem yY(x:Nat)(a:x<4294967296):bits .xor .u32 ((x:Int)/2) 2197175160=((x/2^^^dK.od:Nat):Int):=by
 have h:=u32_xor_nat (x/2) dK.od (by omega) (by decide);rw[show((dK.od:Nat):Int)=(2197175160:Int)from rfl]at h;rw[show((x:Int)/2)=((x/2:Nat):Int)by omega];exact h
theorem E4(x:Nat)(hp:x%2=1):dK.H x=x/2^^^dK.od:=by unfold dK.H;rw[GU hp]
theorem Ec(x:Nat)(hp:¬x%2=1):dK.H x=x/2:=by unfold dK.H;rw[GQ hp,Nat.xor_zero]
theorem AF(x:Nat)(a:x<4294967296)(hp:x%2=1):(bits .and .u32 (x:Int) 1==1)=true:=by
 rw[wX x a,hp];rfl
theorem yo(x:Nat)(a:x<4294967296)(hp:¬x%2=1):(bits .and .u32 (x:Int) 1==1)=false:=by
 rw[wX x a,show x%2=0 by omega];rfl
set_option maxHeartbeats 400000 in
theorem A6(x:Nat)(w:World)(a:x<4294967296):
 Calls Tryz.prog 178 #[.int .u32 (x:Int)] w fun e w'=>e=.returned (.int .u32 (dK.H x:Nat))/\w=w':=by
 by_cases hp:x%2=1
 ·have c:=AF x a hp;have b:=GD hp;clear hp;go_enter Tryz.func178,Tryz.ntmps178;go_wp2;go_ret;exact⟨lx (by rw[yY x a,E4 x b.out]),rfl⟩
 ·have c:=yo x a hp;have b:=GD hp;clear hp;go_enter Tryz.func178,Tryz.ntmps178;go_wp2;go_ret;exact⟨lx (by rw[Ec x b.out];omega),rfl⟩
theorem rz(r b:Nat)(a:b<256):bits .xor .u8 ((r:Int)%256) (b:Int)=(((r%256)^^^b:Nat):Int):=by
 rw[show((r:Int)%256)=((r%256:Nat):Int)by omega];exact u8_xor_nat (r%256) b (by omega) a
theorem wi(a b:Nat)(d:a<4294967296)(c:b<4294967296):bits .xor .u32 (a:Int) ((b:Nat):Int)=((a^^^b:Nat):Int):=u32_xor_nat a b d c
set_option maxHeartbeats 400000 in
set_option maxRecDepth 20000 in
theorem zn(r b:Nat)(B:Nat)(w:World)(h:r<4294967296)(a:b<256)
 (d:∀i,i<256->w.cell? ⟨B,i,none⟩=some (.int .u32 (dK.S i:Nat))):
 Calls Tryz.prog 159 #[.int .u32 (r:Int),.int .u8 (b:Int),.pointer (some ⟨B,0,none⟩)] w fun e w'=>e=.returned (.int .u32 (dK.S (r^^^b):Nat))/\w=w':=by
 have f:(r%256)^^^b<256:=Ja (n:=8) (by omega) a;have k:0<=bits .xor .u8 ((r:Int)%256) (b:Int):=by rw[rz r b a];omega
 have j:bits .xor .u8 ((r:Int)%256) (b:Int)<256:=by rw[rz r b a];omega
 have c:w.cell? ⟨B,(bits .xor .u8 ((r:Int)%256) (b:Int)).toNat,none⟩=some (.int .u32 (dK.S ((r%256)^^^b):Nat)):=by
  rw[rz r b a];exact d _ f
 have hs:dK.S ((r%256)^^^b)<4294967296:=dK.D7 (by omega);have g:=GD (dK.zq r b);clear d;go_enter Tryz.func159,Tryz.ntmps159;go_wp2;go_ret;refine⟨lx ?_,rfl⟩;rw[g.out,show((r:Int)/256)=((r/256:Nat):Int)by omega];exact wi _ _ hs (by omega)
theorem wA(s:Nat)(hs:s<4294967296):bits .xor .u32 IntKind.u32.max (s:Int)=((dK.kR^^^s:Nat):Int):=by
 have h:=u32_xor_nat dK.kR s (by decide) hs;exact h
theorem qL:(∀w,(zeroValue 207).run Tryz.prog w=.ok (.agg (Array.replicate 256 (.int .u32 0))) w)/\(Tryz.prog.info? 207).map (·.size)=some 256:=
 zero_of_info (by kernel_rfl)
structure yV(cs:Array Value)(m q x:Nat):Prop where
 size:cs.size=256
 all:∀i,i<256->i%m=0->cs[i]?=some (.int .u32 (dK.S i:Nat))
 some:∀i,i<x->i<256->i%q=0->cs[i]?=some (.int .u32 (dK.S i:Nat))
 kR:cs.all (·.oneCell')=true
theorem sK:∀g,g<8->∀x,x<256->x%2^(g+1)=0->x^^^2^g=x+2^g:=by decide+kernel
theorem rQ{B:Nat}{a w:World}(h:Below B a w){g:Nat}(c:B<=g)(cs:Array Value):Below B a (w.setRow g cs):=
 h.trans ⟨rfl,rfl,rfl,by simp,fun k b=>setRow_other w g k cs (by omega)⟩
theorem Cx{cs:Array Value}(h:cs.all (·.oneCell')=true)(i:Nat)(v:Value)(b:v.oneCell'=true):(cs.setIfInBounds i v).all (·.oneCell')=true:=by
 rw[Array.all_eq_true_iff_forall_mem]at h⊢;intro x a;rcases Array.mem_or_eq_of_mem_setIfInBounds a with a|rfl
 ·exact h x a
 ·exact b
theorem yV.put{cs:Array Value}{g x:Nat}(h:yV cs (2^(g+1)) (2^g) x)(v:g<8)(s:x<256)(hm:x%2^(g+1)=0):
 yV (cs.setIfInBounds (x+2^g) (.int .u32 ((dK.S x^^^dK.Hn (8-g) 1:Nat):Int))) (2^(g+1)) (2^g) (x+2*2^g):=by
 have he:dK.S x^^^dK.Hn (8-g) 1=dK.S (x+2^g):=by
  rw[<-sK g v x s hm,dK.Bw];congr 1
  show dK.Hn (8-g) 1=dK.Hn 8 (2^g);have:=dK.vX g (8-g) (2^g*1);rw[dK.pD,Iz,show g+(8-g)=8 by omega]at this;exact this.symm
 rw[he];have hs:=h.size;have t:0<2^g:=Nat.pow_pos (by decide);have hp:2^(g+1)=2*2^g:=Nat.pow_succ';rw[hp]at hm;generalize 2^g=q at*
 rw[hp]at h⊢;have f:(x+q)%(2*q)=q:=by
  obtain⟨m,k⟩:=Nat.dvd_of_mod_eq_zero hm;rw[k,Nat.add_comm,Nat.add_mul_mod_self_left,IP (by omega)]
 refine⟨by simpa using hs,fun i l c=>?_,fun i l c d=>?_,Cx h.kR _ _ rfl⟩
 ·have j:x+q≠i:=by
   intro e;rw[<-e,f]at c;omega
  rw[Array.getElem?_setIfInBounds,GQ j];exact h.all i l c
 ·rw[Array.getElem?_setIfInBounds];by_cases e:x+q=i
  ·rw[GU e,GU (by omega),e]
  ·rw[GQ e];rcases Hi i x with hlt|u
   ·exact h.some i hlt c d
   ·obtain⟨a,o⟩:=Nat.dvd_of_mod_eq_zero d;obtain⟨b,n⟩:=Nat.dvd_of_mod_eq_zero hm;have p:q*(2*b)=x:=by rw[n,Nat.mul_left_comm,Nat.mul_assoc]
    have l1:2*b<=a:=Nat.le_of_mul_le_mul_left (by omega:q*(2*b)<=q*a) t;have z:a<2*b+2:=Nat.lt_of_mul_lt_mul_left (by rw[Nat.mul_add];omega:q*a<q*(2*b+2));have y:a≠2*b+1:=by
     intro w;apply e;rw[o,w,Nat.mul_add,p];omega
    have r:a=2*b:=by omega
    refine h.all i c ?_;rw[o,r,p,n,Nat.mul_mod_right]
theorem yV.next{cs:Array Value}{g x:Nat}(h:yV cs (2^(g+1)) (2^g) x)(b:256<=x):yV cs (2^g) (2^g/2) 0:=
 ⟨h.size,fun i a h0=>h.some i (by omega) a h0,fun i a=>absurd a (by omega),h.kR⟩
theorem yV.start{cs:Array Value}{m q a:Nat}(h:yV cs m q 0):yV cs m a 0:=⟨h.size,h.all,fun i b=>absurd b (by omega),h.kR⟩
theorem zo:yV (Array.replicate 256 (.int .u32 0)) 256 128 0:=by
 refine⟨by simp,fun i a h0=>?_,fun i a=>absurd a (by omega),by decide+kernel⟩;obtain rfl:i=0:=by omega
 rw[IE,GU (by decide),show dK.S 0=0 from dK.CG 8];rfl
theorem fill_eq(g q:Nat)(b:g+1<=8)(a:q=2^g):0+2^(7-g)*(2*q)=256:=by
 rw[a,<-Nat.pow_succ',<-Nat.pow_add,show 7-g+(g+1)=8 by omega]
set_option maxHeartbeats 400000 in
set_option maxRecDepth 20000 in
theorem xp(w:World):
 Calls Tryz.prog 158 #[] w fun e w'=>∃cs:Array Value,e=.returned (.agg cs)/\cs.size=256/\(∀i,i<256->cs[i]?=some (.int .u32 (dK.S i:Nat)))/\Below w.heap.size w w':=by
 have hz:=qL.1;go_enter Tryz.func158,Tryz.ntmps158;go_wp2;obtain⟨w1,a⟩:∃w1,w1=w.alloc (.cells (Array.replicate 256 (.int .u32 0)) 207):=⟨_,rfl⟩
 rw[<-a];have l:w.heap.size+1=w1.heap.size:=by rw[a];simp
 rw[l];have E:=GD l;have D:=GD a;clear l a hz;go_loopg [2,3] 8 (fun g r bit L=>∃cs:Array Value,g<=8/\yV cs (2^g) (2^g/2) 0/\bit=.int .i64 (2^g/2:Nat)/\r=.int .u32 (dK.Hn (8-g) 1:Nat)/\L=w1.alloc (.cells cs 207))
 case atStart=>exact⟨_,by omega,zo,rfl,rfl,rfl⟩
 case round=>
  obtain⟨cs,Q,hT,rfl,rfl,rfl⟩:=hrel;have f:=GD hT;clear hT;cases gk with
  |zero=>
   rw[show((2^0/2:Nat):Int)=0 from rfl];have p:dK.Hn (8-0) 1<4294967296:=dK.BD _ (by decide);generalize dK.Hn (8-0) 1=r at p⊢;have j:(Tryz.prog.info? 207).map (·.size)=some cs.size:=by rw[f.out.size];exact qL.2
   have A:(w1.alloc (.cells cs 207)).heap[w1.heap.size]?=some (.cells cs 207 (0,0)):=GM _ _;have B:(w1.alloc (.cells cs 207)).heap[w.heap.size]?=some (.cells (Array.replicate 256 (.int .u32 0)) 207 (0,0)):=by
    rw[show(w1.alloc (.cells cs 207)).heap[w.heap.size]?=w1.heap[w.heap.size]? from Below.heap_alloc _ _ _ (by have:=E.out;omega),D.out];exact GM _ _
   have c:=f.out.kR;have C:=f.out.size;have d:=f.out.all;have o:=GD j;have O:=GD A;have I:=GD B;have G:=GD c;have J:=GD C;have K:=GD d;clear j A B c C d f;go_upto_region 11 with(fail)
   go_step;refine wpList_load_row rfl 207 (.tmp 1) rfl w1.heap.size rfl 207 cs (0,0) _ O.out Tryz.underlying207 rfl o.out ?_;refine wpList_store_row rfl 207 (.tmp 0) (.tmp 26) rfl w.heap.size cs rfl rfl 207 (Array.replicate 256 (.int .u32 0)) I.out o.out (by rw[J.out];simp) G.out ?_;go_wp2;refine bodyPost_ret (v:=.agg cs) ?_ rfl ⟨cs,rfl,J.out,fun i V=>K.out i V (Nat.mod_one i),?_⟩
   ·exact IG rfl _ _ w.heap.size 207 cs (0,0) _ rfl (setRow_heap _ _ _ _ _ _ I.out) Tryz.underlying207 rfl o.out
   ·have hs:=E.out;have h0:Below w.heap.size w w1:=by rw[D.out];exact(GF _ _).alloc (GH _) _
    exact rQ (h0.alloc (by omega) _) (GH _) _
  |succ g=>
   rw[show(2^(g+1)/2:Nat)=2^g by rw[Jk];omega]at f⊢;obtain⟨q,z⟩:∃q,q=2^g:=⟨_,rfl⟩
   have U:1<=q:=by rw[z];exact Nat.pow_pos (by decide)
   have T:q<=128:=by rw[z];exact I4 (by decide) (by omega:g<=7)
   rw[<-z];have s:=GD z;have p:dK.Hn (8-(g+1)) 1<4294967296:=dK.BD _ (by decide);have F:=GD (dK.CH (8-(g+1)) 1);rw[show 8-(g+1)+1=8-g by omega]at F;clear z;generalize dK.Hn (8-(g+1)) 1=r at p F⊢;go_wp2_with (go_at_call 178;refine(A6 _ _ p).mono ?_;rintro e w'⟨rfl,rfl⟩)
   have y:dK.H r<4294967296:=dK.E5 p;rw[<-F.out];rw[<-F.out]at y;have P:=GD Q;clear F Q p;go_loopg [4] (2^(7-g)) (fun k s4 L=>∃(x:Nat)(cs:Array Value),x+k*(2*q)=256/\x%(2*q)=0/\yV cs (2^(g+1)) (2^g) x/\s4=.int .i64 x/\L=w1.alloc (.cells cs 207))
   case atStart=>exact⟨0,cs,fill_eq g q P.out s.out,by simp,f.out.start,rfl,rfl⟩
   case round=>
    obtain⟨x,m,h,t,hT,rfl,rfl⟩:=hrel;have b:=GD hT;have n:=GD t;clear hT t f;cases gk with
    |zero=>
     obtain rfl:x=256:=by omega
     go_wp2;go_roundg g
     case measure=>omega
     case rel=>exact⟨m,by have:=P.out;omega,b.out.next (GH _),by rw[<-s.out];rfl,rfl,rfl⟩
    |succ k=>
     rw[Nat.add_mul]at h;have u:x<256:=by omega
     have R:x+q<256:=by omega
     have N:=GD h;clear h;have j:=b.out.size;have hlt:x<m.size:=by omega
     have W:m[x]=.int .u32 (dK.S x:Nat):=by
      have:=b.out.all x u (by rw[Nat.pow_succ',<-s.out];exact n.out);rw[Hq hlt]at this;exact GZ this
     have M:dK.S x<4294967296:=dK.D7 (by omega);go_wp2;go_roundg k
     case measure=>omega
     case rel=>
      have hp:=b.out.put (by have:=P.out;omega) u (by rw[Nat.pow_succ',<-s.out];exact n.out);rw[<-s.out]at hp;refine⟨x+2*q,_,by have:=N.out;omega,by rw[Nat.add_mod_right];exact n.out,by rw[<-s.out];exact hp,by go_num,?_⟩;rw[wi _ _ M y]
theorem Cf{cs:Array Value}(c:cs.size=256)(a:∀i,i<256->cs[i]?=some (.int .u32 (dK.S i:Nat))):cs.all (·.oneCell')=true:=by
 rw[Array.all_eq_true];intro i b;have:=a i (by omega);rw[Hq b]at this;rw[GZ this];rfl
set_option maxHeartbeats 800000 in
set_option maxRecDepth 20000 in
theorem AH(s:Nat)(v:Value)(l:List Nat)(w:World)(hs:s<4294967296)(q:aJ w v l):
 Calls Tryz.prog 120 #[.int .u32 (s:Int),v] w fun e w'=>e=.returned (.int .u32 (dK.more s l:Nat))/\Below w.heap.size w w':=by
 have D:=GD q;obtain⟨p,cap,rfl,-,-,hp⟩:=q.form;have hlen:=q.len;clear hp q;have hz:=qL.1;have I:∀(fn:Fn)(first cap:Array Value)(w:World),(Instr.makeFunc fn first cap).run Tryz.prog w=.ok (.func fn first cap) w:=fun _ _ _ _=>rfl;go_enter Tryz.func120,Tryz.ntmps120;go_wp2_with fail
 refine(xp _).mono ?_;rintro e w1⟨cs,rfl,g,f,d⟩;have h:=Cf g f;have j:(Tryz.prog.info? 207).map (·.size)=some cs.size:=by rw[g];exact qL.2
 have F:(w1.alloc (.cells (Array.replicate 256 (.int .u32 0)) 207)).heap[w1.heap.size]?=some (.cells (Array.replicate 256 (.int .u32 0)) 207 (0,0)):=GM _ _;have c:∀i,i<256->(w1.alloc (.cells cs 207)).cell? ⟨w1.heap.size,i,none⟩=some (.int .u32 (dK.S i:Nat)):=by
  intro i J;rw[Iq _ w1.heap.size i cs 207 (0,0) (GM _ _)];exact f i J
 have A:=GD j;have K:=GD F;have a:=GD c;have C:=GD g;have z:=GD ((d.alloc d.size (.cells cs 207)));clear j F c g f;dsimp only;go_at_K
 go_step;go_step;go_step;go_step;refine wpList_store_row rfl 207 (.tmp 5) (.tmp 10) rfl w1.heap.size cs rfl rfl 207 (Array.replicate 256 (.int .u32 0)) K.out A.out (by rw[C.out];simp) h ?_;rw[World.setRow_alloc_new];clear hz h d;have m:=GD (D.out.below z.out);generalize w1.alloc (.cells cs 207)=W at a z m⊢;generalize w1.heap.size=B at a⊢;go_wp2;rw[wA s hs];go_loop [7,16] (fun r i=>∃k:Nat,k<=l.length/\i=.int .i64 k/\r=.int .u32 (dK.raw (dK.kR^^^s) (l.take k):Nat)) (fun _ i=>l.length-(intOf i).toNat)
 case atStart=>exact⟨0,by omega,rfl,rfl⟩
 case round=>
  obtain⟨k,M,rfl,rfl⟩:=hrel;have o:dK.raw (dK.kR^^^s) (l.take k)<4294967296:=dK.Ad (Ja (n:=32) (by decide) hs) (D.out.tg k);by_cases hlt:k<l.length
  ·have t:=GD (dK.Ac (dK.kR^^^s) (l.take k) (l.getD k 0));rw[<-dR l k hlt]at t;have E:=D.out.getD k;obtain⟨L,H,he,-,-,hp⟩:=m.out.form;obtain⟨b,off,u,G⟩:=hp (by omega);have x:=G k hlt;simp only[Hc]at he;obtain⟨rfl,-,rfl⟩:=he;subst u;clear G hp;generalize dK.raw (dK.kR^^^s) (l.take k)=r at o t⊢;generalize l.getD k 0=y at E t x;go_wp2_with (go_at_call 159;refine(zn r y B _ o E a.out).mono ?_;rintro e w'⟨rfl,rfl⟩)
   go_round
   case rel=>exact⟨k+1,by omega,by go_num,by rw[t.out]⟩
   case measure=>simp[intOf];omega
  ·obtain rfl:k=l.length:=by omega
   rw[List.take_length]at o⊢;go_wp2;go_ret;exact⟨lx (wA _ o),z.out⟩
set_option maxHeartbeats 400000 in
theorem ln(v:Value)(l:List Nat)(w:World)(a:aJ w v l):
 Calls Tryz.prog 86 #[v] w fun e w'=>e=.returned (.int .u32 (dK.more 0 l:Nat))/\Below w.heap.size w w':=by
 have b:=GD a;clear a;go_enter Tryz.func86,Tryz.ntmps86;go_wp2_with (go_at_call 120;refine(AH 0 _ _ _ (by decide) b.out).mono ?_;rintro e w'⟨rfl,c⟩)
 go_ret;exact⟨rfl,by assumption⟩
end Go.Proofs.YtbpodmallknhfaaGreat
