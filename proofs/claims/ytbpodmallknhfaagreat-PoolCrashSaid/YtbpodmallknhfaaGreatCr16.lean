/- Parts of a proof. Conditions: as each row says. -/
import Derived.Test.YtbpodmallknhfaaGreatCr06
import Derived.Test.YtbpodmallknhfaaGreatCr07
import Derived.Test.YtbpodmallknhfaaGreatCr10
namespace Go.Proofs.YtbpodmallknhfaaGreat
open Go.RowKit
def Eh(w:World)(v:Value)(L:List Nat):Prop:=∃b cap,v=.slice (some ⟨b,0,none⟩) L.length cap/\∀i,i<L.length->w.cell? ⟨b,i,none⟩=some (.int .u64 (L.getD i 0:Nat))
def nP(L:List Nat):List Nat:=L.flatMap (aw.le 8)
theorem eF:∀L:List Nat,(nP L).length=8*L.length
 | []=>rfl
 |x::L=>by
  have:=eF L;unfold nP at*
  rw[List.flatMap_cons,List.length_append,this,aw.ao,List.length_cons];omega
theorem BB(L:List Nat)(k:Nat)(h:k<L.length):nP (L.take (k+1))=nP (L.take k)++aw.le 8 (L.getD k 0):=by
 rw[cT L k h];unfold nP;rw[List.flatMap_append];simp
theorem Eh.below{w w':World}{v:Value}{L:List Nat}(h:Eh w v L)(f:Below w.heap.size w w'):Eh w' v L:=by
 obtain⟨b,cap,c,e⟩:=h;refine⟨b,cap,c,fun i d=>?_⟩;have a:=e i d;rw[f.cell (p:=⟨b,i,none⟩) (block_lt_of_cell a)];exact a
theorem me(w:World)(L:List Nat)(n:Nat)(a:L.length=n)(A:Array Value)(t:TypeId)(c:A=(L.map fun x:Nat=>Value.int .u64 (x:Int)).toArray):Eh (w.alloc (.cells A t)) (.slice (some ⟨w.heap.size,0,none⟩) n n) L:=by
 subst c;refine⟨_,n,by rw[a],fun i b=>?_⟩;rw[cell_of_row _ _ i _ _ (0,0) (heap_alloc_last _ _)];simp[List.getElem?_eq_getElem b]
set_option maxHeartbeats 1600000 in
set_option maxRecDepth 20000 in
theorem ia(v:Value)(L:List Nat)(w:World)(h:Eh w v L)(hl:L.length<=100):
 Calls Tryz.prog 114 #[v] w fun e w'=>∃u,e=.returned u/\Own w.heap.size w' u (nP L)/\Below w.heap.size w w':=by
 obtain⟨b,cap,rfl,j⟩:=h;have I:=Lib.hid j;clear j;go_enter Tryz.func114,Tryz.ntmps114;go_wp2_with fail
 go_loopw [3,8] (fun s i wr=>∃(k:Nat)(sv:Value),sv=s/\k<=L.length/\i=.int .i64 k/\Own w.heap.size wr s (nP (L.take k))/\Below w.heap.size w wr) (fun _ i _=>L.length-(intOf i).toNat)
 case atStart=>exact⟨0,_,rfl,Nat.zero_le _,rfl,aM _ _,Below.refl _ _⟩
 case round=>
  obtain⟨k,s,hs,J,rfl,r,o⟩:=hrel;subst hs;have C:=Lib.hid r;have q:=Lib.hid o;by_cases c:k<L.length
  ·have E:(k:Int)<(L.length:Int):=by omega
   have a:=I.out k c;have F:=o.cell (p:=⟨b,k,none⟩) (block_lt_of_cell a);rw[a]at F;have D:=IntWalk.i64_in ((k:Int)+1) (by omega);have hle:=eF (L.take k);rw[List.length_take]at hle;have H:=Lib.hid hle;have f:=Lib.hid c;clear a r o hle;generalize A:L.getD k 0=x at*
   have G:=Lib.hid A;clear A;go_wp2_with fail
   refine(fw (.slice none 0 0) [] x _ (aX _) (by decide)).mono ?_;rintro e w1⟨u,rfl,d,m⟩;rw[List.nil_append]at d;have z:=Lib.hid d;have g:=Lib.hid m;clear d m;dsimp only;go_step;refine aB rfl (.tmp 12) (.tmp 14) rfl w.heap.size s _ rfl (C.out.below g.out) u _ rfl z.out.bz (by rw[H.out,aw.ao];omega) (Nat.le_trans q.out.size g.out.size) ?_;intro v2 w2 n l _;have y:=Lib.hid n;have t:=Lib.hid ((q.out.trans (g.out.mono q.out.size)).trans l);clear n l;go_wp2_with fail
   go_roundw
   case rel=>
    refine⟨k+1,_,rfl,f.out,by go_num,?_,t.out⟩;rw[BB L k f.out,G.out];exact y.out
   case measure=>have:=f.out;simp[intOf];omega
  ·obtain rfl:k=L.length:=by omega
   have E:¬(L.length:Int)<(L.length:Int):=by omega
   clear r o c;go_wp2_with fail
   go_ret;have B:=C.out;rw[List.take_length]at B;exact⟨_,rfl,B,q.out⟩
theorem Dm{base:Nat}{w:World}{v:Value}{l:List Nat}(h:Own base w v l):v.ownBlock≠some w.heap.size:=by
 rcases h.form with⟨rfl,-⟩|⟨g,cap,rfl,-,-,-,a⟩
 ·simp[Value.ownBlock]
 ·have:=a.lt;simp only[Value.ownBlock,ne_eq,Option.some.injEq];omega
theorem fX.Cj(l:List Lr.Ch)(k:Nat)(h:k<l.length):Lr.qh (l.take (k+1))=Lr.qh (l.take k)++nP [(l.getD k default).1,(l.getD k default).2.1,(l.getD k default).2.2]:=by
 rw[List.take_succ_eq_append_getElem h];unfold Lr.qh nP;rw[List.flatMap_append];simp[Lr.Gq,List.getElem?_eq_getElem h]
theorem gj.Cd(l:List Lr.Di)(k:Nat)(h:k<l.length):Lr.qz (l.take (k+1))=(Lr.qz (l.take k)++aw.le 4 (l.getD k default).1)++aw.le 8 (l.getD k default).2:=by
 rw[List.take_succ_eq_append_getElem h];unfold Lr.qz;rw[List.flatMap_append];simp[Lr.Gp,List.getElem?_eq_getElem h]
set_option maxHeartbeats 1600000 in
set_option maxRecDepth 20000 in
theorem wM(v:Value)(l:List Lr.Ch)(w:World)(h:fX.aV w v l)(hl:l.length<=10000):
 Calls Tryz.prog 115 #[v] w fun e w'=>∃u,e=.returned u/\Own w.heap.size w' u (aw.uv l.length++Lr.qh l)/\Below w.heap.size w w':=by
 have N:=Lib.hid h;obtain⟨p,cap,rfl⟩:=h.slice;have hu:=aw.iG (n:=l.length) (by omega);have F:IntKind.u64.wrap (l.length:Int)=(l.length:Int):=by rw[IntKind.wrap_u64];omega
 clear h;go_enter Tryz.func115,Tryz.ntmps115;go_wp2_with fail
 refine(rI (.slice none 0 0) [] l.length _ (aX _) (by omega) (by decide)).mono ?_;rintro e w1⟨S,rfl,a,c⟩;rw[List.nil_append]at a;have q:=Lib.hid a;have d:=Lib.hid c;clear a c F;go_wp2_with fail
 go_loopw [3,12] (fun s i wr=>∃(k:Nat)(sv:Value),sv=s/\k<=l.length/\i=.int .i64 k/\Own w.heap.size wr s (aw.uv l.length++Lr.qh (l.take k))/\Below w.heap.size w wr) (fun _ i _=>l.length-(intOf i).toNat)
 case atStart=>exact⟨0,_,rfl,Nat.zero_le _,rfl,by rw[List.take_zero];simpa[Lr.qh]using q.out,d.out⟩
 case round=>
  obtain⟨k,s,hs,U,rfl,H,D⟩:=hrel;subst hs;have M:=Lib.hid H;have E:=Lib.hid D;by_cases b:k<l.length
  ·have P:(k:Int)<(l.length:Int):=by omega
   obtain⟨W,T,V,A⟩:=N.out.some (by omega);simp only[Value.slice.injEq,true_and]at A;obtain⟨rfl,rfl⟩:=A;have o:=N.out.below D;have c0:=o.at k b 0 (by decide);have c1:=o.at k b 1 (by decide);have c2:=o.at k b 2 (by decide);simp only[fX.enc,List.getElem?_cons_zero,List.getElem?_cons_succ,Nat.add_zero]at c0 c1 c2;have O:=IntWalk.i64_in ((k:Int)+1) (by omega);have hle:=Lr.jF (l.take k);rw[List.length_take]at hle;have R:=Lib.hid hle;have r:=Lib.hid b;have Q:=Lib.hid hu;clear H D hle o hu;generalize y:(l.getD k default).1=j at*
   generalize x:(l.getD k default).2.1=g at*
   generalize t:(l.getD k default).2.2=f at*
   have I:Hid (_/\_/\_):=⟨y,x,t⟩
   clear y x t;go_wp2_with fail
   have G:=me (wr.alloc (.cells #[.int .u64 (j:Int),.int .u64 (g:Int),.int .u64 (f:Int)] 204)) [j,g,f] 3 rfl #[.int .u64 (j:Int),.int .u64 (g:Int),.int .u64 (f:Int)] 56 rfl;have m:Below wr.heap.size wr ((wr.alloc (.cells #[.int .u64 (j:Int),.int .u64 (g:Int),.int .u64 (f:Int)] 204)).alloc (.cells #[.int .u64 (j:Int),.int .u64 (g:Int),.int .u64 (f:Int)] 56)):=((Below.refl _ _).alloc (Nat.le_refl _) _).alloc (by simp) _;have z:(wr.alloc (.cells #[.int .u64 (j:Int),.int .u64 (g:Int),.int .u64 (f:Int)] 204)).heap.size=wr.heap.size+1:=by simp
   rw[z]at G;clear z;generalize(wr.alloc (.cells #[.int .u64 (j:Int),.int .u64 (g:Int),.int .u64 (f:Int)] 204)).alloc (.cells #[.int .u64 (j:Int),.int .u64 (g:Int),.int .u64 (f:Int)] 56)=wn at*
   refine(ia _ [j,g,f] wn G (show 3<=100 by decide)).mono ?_;rintro e w1⟨u,rfl,a,c⟩;have q:=Lib.hid (a.from m.size);have d:=Lib.hid (m.trans (c.mono m.size));clear a c G m;dsimp only;go_step;refine aB rfl (.tmp 16) (.tmp 24) rfl w.heap.size s _ rfl (M.out.below d.out) u _ rfl q.out.bz (by rw[List.length_append,R.out,eF];have:=Q.out;simp only[List.length_cons,List.length_nil];omega) (Nat.le_trans E.out.size d.out.size) ?_;intro v2 w2 C B _;have K:=Lib.hid C;have J:=Lib.hid ((E.out.trans (d.out.mono E.out.size)).trans B);clear C B;go_wp2_with fail
   go_roundw
   case rel=>
    refine⟨k+1,_,rfl,r.out,by go_num,?_,J.out⟩;rw[fX.Cj l k r.out,I.out.1,I.out.2.1,I.out.2.2,<-List.append_assoc];exact K.out
   case measure=>have:=r.out;simp[intOf];omega
  ·obtain rfl:k=l.length:=by omega
   have P:¬(l.length:Int)<(l.length:Int):=by omega
   clear H D b;go_wp2_with fail
   go_ret;have L:=M.out;rw[List.take_length]at L;exact⟨_,rfl,L,E.out⟩
set_option maxHeartbeats 1600000 in
set_option maxRecDepth 20000 in
theorem zG(v:Value)(l:List Lr.Di)(w:World)(h:gj.aV w v l)(hl:l.length<=10000):
 Calls Tryz.prog 116 #[v] w fun e w'=>∃u,e=.returned u/\Own w.heap.size w' u (aw.uv l.length++Lr.qz l)/\Below w.heap.size w w':=by
 have Z:=Lib.hid h;obtain⟨p,cap,rfl⟩:=h.slice;have hu:=aw.iG (n:=l.length) (by omega);have M:IntKind.u64.wrap (l.length:Int)=(l.length:Int):=by rw[IntKind.wrap_u64];omega
 clear h;go_enter Tryz.func116,Tryz.ntmps116;go_wp2_with fail
 refine(rI (.slice none 0 0) [] l.length _ (aX _) (by omega) (by decide)).mono ?_;rintro e w1⟨u0,rfl,a,b⟩;rw[List.nil_append]at a;have r:=Lib.hid a;have d:=Lib.hid b;clear a b M;go_wp2_with fail
 go_loopw [3,12] (fun s i wr=>∃(k:Nat)(sv:Value),sv=s/\k<=l.length/\i=.int .i64 k/\Own w.heap.size wr s (aw.uv l.length++Lr.qz (l.take k))/\Below w.heap.size w wr) (fun _ i _=>l.length-(intOf i).toNat)
 case atStart=>exact⟨0,_,rfl,Nat.zero_le _,rfl,by rw[List.take_zero];simpa[Lr.qz]using r.out,d.out⟩
 case round=>
  obtain⟨k,s,hs,hk,rfl,O,K⟩:=hrel;subst hs;have T:=Lib.hid O;have L:=Lib.hid K;by_cases f:k<l.length
  ·have hi:(k:Int)<(l.length:Int):=by omega
   obtain⟨ba,oa,ga,C⟩:=Z.out.some (by omega);simp only[Value.slice.injEq,true_and]at C;obtain⟨rfl,rfl⟩:=C;have o:=Z.out.below K;have c0:=o.at k f 0 (by decide);have c1:=o.at k f 1 (by decide);simp only[gj.enc,List.getElem?_cons_zero,List.getElem?_cons_succ,Nat.add_zero]at c0 c1;have aa:=IntWalk.i64_in ((k:Int)+1) (by omega);have hle:=Lr.jD (l.take k);rw[List.length_take]at hle;have Y:=Lib.hid hle;have t:=Lib.hid f;have X:=Lib.hid hu;clear O K hle o hu;generalize B:(l.getD k default).1=z at*
   generalize A:(l.getD k default).2=y at*
   have W:Hid (_/\_):=⟨B,A⟩
   clear B A;have U:Hid (s.ownBlock≠some wr.heap.size):=Dm T.out;go_wp2_with fail
   have c:Below wr.heap.size wr (wr.alloc (.cells #[.int .u32 (z:Int),.int .u64 (y:Int)] 104)):=aj _ _;have j:(wr.alloc (.cells #[.int .u32 (z:Int),.int .u64 (y:Int)] 104)).heap[wr.heap.size]?=some (.cells #[.int .u32 (z:Int),.int .u64 (y:Int)] 104 (0,0)):=heap_alloc_last _ _;generalize wr.alloc (.cells #[.int .u32 (z:Int),.int .u64 (y:Int)] 104)=wn at*
   refine(de (.slice none 0 0) [] z _ (aX _) (by decide)).mono ?_;rintro e w1⟨u,rfl,a,b⟩;rw[List.nil_append]at a;have g:=(b.block _ (lt_of_block j)).trans j;have r:=Lib.hid a;have d:=Lib.hid (c.trans (b.mono c.size));have J:=Lib.hid g;clear a b c j g;dsimp only;go_step;refine aB rfl (.tmp 16) (.tmp 19) rfl w.heap.size s _ rfl (T.out.below d.out) u _ rfl r.out.bz (by rw[List.length_append,Y.out,aw.ao];have:=X.out;omega) (Nat.le_trans L.out.size d.out.size) ?_;intro v2 w2 I G D;have c:v2=v2:=rfl;have N:=bI (show w2.heap[wr.heap.size]?=_ from(D.block _ (lt_of_block J.out) (fun e=>U.out e.symm)).trans J.out);have S:=Lib.hid I;have q:=Lib.hid ((L.out.trans (d.out.mono L.out.size)).trans G);clear I G D c;go_wp2_with fail
   refine(fw (.slice none 0 0) [] y _ (aX _) (by decide)).mono ?_;rintro e w3⟨u3,rfl,m,F⟩;rw[List.nil_append]at m;have R:=Lib.hid m;have x:=Lib.hid F;clear m F N;dsimp only;go_step;refine aB rfl (.tmp 21) (.tmp 24) rfl w.heap.size v2 _ rfl (S.out.below x.out) u3 _ rfl R.out.bz (by rw[List.length_append,List.length_append,Y.out,aw.ao,aw.ao];have:=X.out;omega) (Nat.le_trans q.out.size x.out.size) ?_;intro v4 w4 H E _;have Q:=Lib.hid H;have P:=Lib.hid ((q.out.trans (x.out.mono q.out.size)).trans E);clear H E;go_wp2_with fail
   go_roundw
   case rel=>
    refine⟨k+1,_,rfl,t.out,by go_num,?_,P.out⟩;rw[gj.Cd l k t.out,W.out.1,W.out.2,<-List.append_assoc,<-List.append_assoc];exact Q.out
   case measure=>have:=t.out;simp[intOf];omega
  ·obtain rfl:k=l.length:=by omega
   have hi:¬(l.length:Int)<(l.length:Int):=by omega
   clear O K f;go_wp2_with fail
   go_ret;have V:=T.out;rw[List.take_length]at V;exact⟨_,rfl,V,L.out⟩
theorem Rd.small{T:TypeId}{lo:Nat->Prop}{w:World}{B e:Nat}{l:List Nat}(h:Rd T lo w B l e):∀x∈l,x<256:=by
 obtain⟨s,-,a,-⟩:=h;exact a.small
theorem aw.cq(k:Nat)(l:List Nat)(e:Nat)(h:∀x∈l,x<256):(aw.rdNum k l e).1<256^k:=by
 have hp:0<256^k:=Nat.pow_pos (by decide);unfold aw.rdNum;split
 ·exact hp
 split
 ·exact hp
 ·have c:=aw.jz (l.take k) (fun x a=>h x (List.mem_of_mem_take a));have b:(l.take k).length<=k:=by rw[List.length_take];omega
  exact Nat.lt_of_lt_of_le c (Nat.pow_le_pow_right (by decide) b)
theorem qO{α:Type} [Inhabited α](acc:List α)(z:α)(j:Nat)(h:0<j):(acc++List.replicate j default).set acc.length z=acc++[z]++List.replicate (j-1) default:=by
 obtain⟨i,rfl⟩:∃i,j=i+1:=⟨j-1,by omega⟩
 rw[List.replicate_succ,List.set_append_right _ _ (Nat.le_refl _),Nat.sub_self];simp
theorem cy{a b c:World}{B g:Nat}(h:a.grownBy b (some B))(k:b.grownBy c (some g))(j:a.heap.size<=g):a.grownBy c (some B):=
 ⟨k.os.trans h.os,k.tape.trans h.tape,k.output.trans h.output,Nat.le_trans h.size k.size,fun i d f=>(k.block i (Nat.lt_of_lt_of_le d h.size) (fun e=>by have:=Option.some.inj e;omega)).trans (h.block i d f)⟩
theorem fX.Own.parts{base g cap:Nat}{w:World}{l:List fX.El}(h:fX.Own base w (.slice (some ⟨g,0,none⟩) l.length cap) l)(i:Nat)(d:i<l.length)(a b:Value):
 (∃u,w.cell? ⟨g,i*3,none⟩=some u)/\w.frozen? ⟨g,i*3,none⟩=false/\(∃u,(w.setCell ⟨g,i*3,none⟩ a).cell? ⟨g,i*3+1,none⟩=some u)/\(w.setCell ⟨g,i*3,none⟩ a).frozen? ⟨g,i*3+1,none⟩=false/\(∃u,((w.setCell ⟨g,i*3,none⟩ a).setCell ⟨g,i*3+1,none⟩ b).cell? ⟨g,i*3+2,none⟩=some u)/\((w.setCell ⟨g,i*3,none⟩ a).setCell ⟨g,i*3+1,none⟩ b).frozen? ⟨g,i*3+2,none⟩=false:=by
 obtain⟨a0,-⟩:=World.ownsRow.stored h (i*3) a;have c0:=World.ownsRow.cellAt h (i*3) (by omega);have f0:=World.ownsRow.frozenAt h (i*3);obtain⟨c,-⟩:=World.ownsRow.stored a0 (i*3+1) b;have c1:=World.ownsRow.cellAt a0 (i*3+1) (by omega);have f1:=World.ownsRow.frozenAt a0 (i*3+1);have c2:=World.ownsRow.cellAt c (i*3+2) (by omega);have f2:=World.ownsRow.frozenAt c (i*3+2);have hl:=fX.bH l;exact⟨⟨_,c0.trans (List.getElem?_eq_getElem (by rw[hl];omega))⟩,f0,⟨_,c1.trans (List.getElem?_eq_getElem (by simp only[List.length_set];rw[hl];omega))⟩,f1,⟨_,c2.trans (List.getElem?_eq_getElem (by simp only[List.length_set];rw[hl];omega))⟩,f2⟩
theorem gj.Own.parts{base g cap:Nat}{w:World}{l:List gj.El}(h:gj.Own base w (.slice (some ⟨g,0,none⟩) l.length cap) l)(i:Nat)(b:i<l.length)(a:Value):
 (∃u,w.cell? ⟨g,i*2,none⟩=some u)/\w.frozen? ⟨g,i*2,none⟩=false/\(∃u,(w.setCell ⟨g,i*2,none⟩ a).cell? ⟨g,i*2+1,none⟩=some u)/\(w.setCell ⟨g,i*2,none⟩ a).frozen? ⟨g,i*2+1,none⟩=false:=by
 obtain⟨a0,-⟩:=World.ownsRow.stored h (i*2) a;have c0:=World.ownsRow.cellAt h (i*2) (by omega);have f0:=World.ownsRow.frozenAt h (i*2);have c1:=World.ownsRow.cellAt a0 (i*2+1) (by omega);have f1:=World.ownsRow.frozenAt a0 (i*2+1);have hl:=gj.bH l;exact⟨⟨_,c0.trans (List.getElem?_eq_getElem (by rw[hl];omega))⟩,f0,⟨_,c1.trans (List.getElem?_eq_getElem (by simp only[List.length_set];rw[hl];omega))⟩,f1⟩
def fX.Tk(lo:Nat->Prop)(B e:Nat)(l:List Nat)(w w':World)(v:Value):Prop:=
 ∃n m l1 d C a b,aw.lS l e=(n,l1,d)/\Lr.cG m l1 d=(C,a,b)/\(n<=16->m=n)/\m<=16/\fX.Own w.heap.size w' v C/\(∀c∈C,c.1<256^8/\c.2.1<256^8/\c.2.2<256^8)/\Rd 217 lo w' B a b/\w.grownBy w' (some B)
set_option maxHeartbeats 3200000 in
set_option maxRecDepth 20000 in
theorem fX.jT(lo:Nat->Prop)(B e:Nat)(l:List Nat)(w:World)(hR:Rd 217 lo w B l e)(ab:∀b,lo b->b<B):
 Calls Tryz.prog 165 #[.pointer (some ⟨B,0,none⟩)] w fun en w'=>∃v,en=.returned v/\fX.Tk lo B e l w w' v:=by
 have aG:=hR.lt;have HR:=Lib.hid hR;have aB:=Lib.hid ab;obtain⟨n,l1,T,hu⟩:∃n l1 T,aw.lS l e=(n,l1,T):=⟨_,_,_,rfl⟩
 have HU:=Lib.hid hu;have L:=Cs lo B e l w hR;rw[hu]at L;clear hR ab hu;go_enter Tryz.func165,Tryz.ntmps165;go_wp2_with fail
 refine L.mono ?_;rintro en w1⟨rfl,ae,ad⟩;clear L;have ah:=Lib.hid ae;have r:=Lib.hid ad;clear ae ad;by_cases hn:n<=16
 ·have aa:¬(16:Int)<(n:Int):=by omega
  have aj:¬((n:Int)>16):=by omega
  have HN:=Lib.hid hn;go_upto_region 4 with(fail)
  iterate 4 go_step
  refine fX.gd rfl (.tmp 10) (.tmp 10) rfl w1.heap.size .u64 .u64 n rfl rfl (by omega) (Nat.le_refl _) ?_;intro g w2 ag hg t;have aA:=Lib.hid ag;have aQ:=Lib.hid t;have aD:=Lib.hid hg;have aI:B<g:=by have:=r.out.size;omega
  have az:=Lib.hid (ah.out.below t);have aE:=Lib.hid (ak r.out (aR t (some B)));clear ag t hg aa aj;go_wp2_with fail
  go_loopw [14] (fun i wr=>∃k:Nat,k<=n/\i=.int .i64 k/\∃C H U,Lr.cG k l1 T=(C,H,U)/\C.length=k/\(∀c∈C,c.1<256^8/\c.2.1<256^8/\c.2.2<256^8)/\fX.Own w1.heap.size wr (.slice (some ⟨g,0,none⟩) n n) (C++List.replicate (n-k) default)/\Rd 217 lo wr B H U/\w.grownBy wr (some B)) (fun i _=>n-(intOf i).toNat)
  case atStart=>exact⟨0,Nat.zero_le _,rfl,[],l1,T,rfl,rfl,by simp,aA.out,az.out,aE.out⟩
  case round=>
   obtain⟨k,hk,rfl,C,H,U,s,S,u,hO,d,hG⟩:=hrel;by_cases a:k<n
   ·have hi:(k:Int)<(n:Int):=by omega
    have aH:(0:Int)<=(k:Int):=by omega
    have aF:=IntWalk.i64_in ((k:Int)+1) (by omega);have W:=Lib.hid s;have X:=Lib.hid S;have Y:=Lib.hid u;have HO:=Lib.hid hO;have HG:=Lib.hid hG;have q:=Lib.hid a;obtain⟨x0,m0,f0,K⟩:∃x m f,aw.rdNum 8 H U=(x,m,f):=⟨_,_,_,rfl⟩
    have R:=dH lo B U H wr d;have O:=aw.cq 8 H U d.small;rw[K]at R O;have aq:=Lib.hid K;have av:=Lib.hid O;clear K O s S u hO d hG a;go_wp2_with fail
    refine R.mono ?_;rintro en v0⟨rfl,o,D⟩;clear R;have G:=Lib.hid D;clear D;obtain⟨Z,m1,f1,J⟩:∃x m f,aw.rdNum 8 m0 f0=(x,m,f):=⟨_,_,_,rfl⟩
    have Q:=dH lo B f0 m0 v0 o;have N:=aw.cq 8 m0 f0 o.small;rw[J]at Q N;have ao:=Lib.hid J;have au:=Lib.hid N;clear J N;go_wp2_with fail
    refine Q.mono ?_;rintro en v1⟨rfl,j,A⟩;clear Q;have F:=Lib.hid A;clear A;obtain⟨x2,m2,f2,I⟩:∃x m f,aw.rdNum 8 m1 f1=(x,m,f):=⟨_,_,_,rfl⟩
    have P:=dH lo B f1 m1 v1 j;have M:=aw.cq 8 m1 f1 j.small;rw[I]at P M;have an:=Lib.hid I;have ar:=Lib.hid M;clear I M;go_wp2_with fail
    refine P.mono ?_;rintro en v2⟨rfl,y,z⟩;clear P;have E:=Lib.hid z;clear z;have ay:=Lib.hid y;clear y o j;have aC:=Lib.hid (ak (ak (ak HG.out G.out) F.out) E.out);have af:fX.Own w1.heap.size v2 (.slice (some ⟨g,0,none⟩) n n) (C++List.replicate (n-k) default):=(((HO.out.grown G.out (Or.inr (by simp[Value.ownBlock];omega))).grown F.out (Or.inr (by simp[Value.ownBlock];omega))).grown E.out (Or.inr (by simp[Value.ownBlock];omega)))
    have hlen:(C++List.replicate (n-k) (default:fX.El)).length=n:=by rw[List.length_append,List.length_replicate,X.out];omega
    have p:fX.Own w1.heap.size v2 (.slice (some ⟨g,0,none⟩) (C++List.replicate (n-k) (default:fX.El)).length n) (C++List.replicate (n-k) default):=by rw[hlen];exact af
    obtain⟨⟨u0,aP⟩,aL,⟨u1,aO⟩,aK,⟨u2,aN⟩,aJ⟩:=p.parts k (by rw[hlen];exact q.out) (.int .u64 (x0:Int)) (.int .u64 (Z:Int));have V:=Lib.hid (p.stored k (by rw[hlen];exact q.out) (x0,Z,x2));have ai:=Lib.hid hlen;clear af p hlen;go_wp2_with fail
    go_roundw
    case rel=>
     refine⟨k+1,q.out,by go_num,C++[(x0,Z,x2)],m2,f2,?_,?_,?_,?_,?_,?_⟩
     ·exact Lr.oS W.out aq.out ao.out an.out
     ·rw[List.length_append,X.out];rfl
     ·intro c hc;rcases List.mem_append.1 hc with hc|hc
      ·exact Y.out c hc
      ·rw[List.mem_singleton.1 hc];exact⟨av.out,au.out,ar.out⟩
     ·have h2:=V.out.1;have e:(C++List.replicate (n-k) (default:fX.El)).set k (x0,Z,x2)=(C++[(x0,Z,x2)])++List.replicate (n-(k+1)) default:=by
       have h3:=qO C (x0,Z,x2) (n-k) (by have:=q.out;omega);rw[X.out]at h3;rw[h3,show n-k-1=n-(k+1)by omega]
      rw[e,ai.out]at h2;exact h2
     ·exact ay.out.grown V.out.2 (fun g' al=>by
       cases al;exact⟨fun h=>by have:=aB.out _ h;omega,by omega⟩)
     ·exact cy aC.out V.out.2 (by have:=aD.out;have:=r.out.size;omega)
    case measure=>have:=q.out;simp[intOf];omega
   ·obtain rfl:k=n:=by omega
    have hi:¬(k:Int)<(k:Int):=by omega
    have W:=Lib.hid s;have Y:=Lib.hid u;have HO:=Lib.hid hO;have HG:=Lib.hid hG;have ax:=Lib.hid d;clear s S u hO d hG a;go_wp2_with fail
    go_ret;refine⟨_,rfl,k,k,l1,T,C,H,U,HU.out,W.out,fun _=>rfl,HN.out,?_,Y.out,ax.out,HG.out⟩;have h2:=HO.out;rw[Nat.sub_self,List.replicate_zero,List.append_nil]at h2;exact h2.from r.out.size
 ·have aa:(16:Int)<(n:Int):=by omega
  go_wp2_with fail
  go_ret;exact⟨_,rfl,n,0,l1,T,[],l1,T,HU.out,rfl,fun h=>absurd h hn,Nat.zero_le _,fX.aM _ _,by simp,ah.out,r.out⟩
def gj.Tk(lo:Nat->Prop)(B e:Nat)(l:List Nat)(w w':World)(v:Value):Prop:=
 ∃n m l1 d C a b,aw.lS l e=(n,l1,d)/\Lr.ej m l1 d=(C,a,b)/\(n<=64->m=n)/\m<=64/\gj.Own w.heap.size w' v C/\(∀c∈C,c.1<256^4/\c.2<256^8)/\Rd 217 lo w' B a b/\w.grownBy w' (some B)
set_option maxHeartbeats 3200000 in
set_option maxRecDepth 20000 in
theorem gj.jT(lo:Nat->Prop)(B e:Nat)(l:List Nat)(w:World)(hR:Rd 217 lo w B l e)(W:∀b,lo b->b<B):
 Calls Tryz.prog 166 #[.pointer (some ⟨B,0,none⟩)] w fun en w'=>∃v,en=.returned v/\gj.Tk lo B e l w w' v:=by
 have aA:=hR.lt;have HR:=Lib.hid hR;have au:=Lib.hid W;obtain⟨n,l1,N,hu⟩:∃n l1 N,aw.lS l e=(n,l1,N):=⟨_,_,_,rfl⟩
 have HU:=Lib.hid hu;have H:=Cs lo B e l w hR;rw[hu]at H;clear hR W hu;go_enter Tryz.func166,Tryz.ntmps166;go_wp2_with fail
 refine H.mono ?_;rintro en w1⟨rfl,Z,X⟩;clear H;have ad:=Lib.hid Z;have q:=Lib.hid X;clear Z X;by_cases hn:n<=64
 ·have V:¬(64:Int)<(n:Int):=by omega
  have af:¬((n:Int)>64):=by omega
  have HN:=Lib.hid hn;go_upto_region 4 with(fail)
  iterate 4 go_step
  refine gj.gd rfl (.tmp 10) (.tmp 10) rfl w1.heap.size .u64 .u64 n rfl rfl (by omega) (Nat.le_refl _) ?_;intro g w2 ab hg s;have ar:=Lib.hid ab;have aH:=Lib.hid s;have ax:=Lib.hid hg;have aC:B<g:=by have:=q.out.size;omega
  have aq:=Lib.hid (ad.out.below s);have ay:=Lib.hid (ak q.out (aR s (some B)));clear ab s hg V af;go_wp2_with fail
  go_loopw [14] (fun i wr=>∃k:Nat,k<=n/\i=.int .i64 k/\∃C E O,Lr.ej k l1 N=(C,E,O)/\C.length=k/\(∀c∈C,c.1<256^4/\c.2<256^8)/\gj.Own w1.heap.size wr (.slice (some ⟨g,0,none⟩) n n) (C++List.replicate (n-k) default)/\Rd 217 lo wr B E O/\w.grownBy wr (some B)) (fun i _=>n-(intOf i).toNat)
  case atStart=>exact⟨0,Nat.zero_le _,rfl,[],l1,N,rfl,rfl,by simp,ar.out,aq.out,ay.out⟩
  case round=>
   obtain⟨k,hk,rfl,C,E,O,r,M,t,hO,d,hG⟩:=hrel;by_cases a:k<n
   ·have hi:(k:Int)<(n:Int):=by omega
    have aB:(0:Int)<=(k:Int):=by omega
    have az:=IntWalk.i64_in ((k:Int)+1) (by omega);have Q:=Lib.hid r;have R:=Lib.hid M;have S:=Lib.hid t;have HO:=Lib.hid hO;have HG:=Lib.hid hG;have p:=Lib.hid a;obtain⟨T,m0,f0,G⟩:∃x m f,aw.rdNum 4 E O=(x,m,f):=⟨_,_,_,rfl⟩
    have L:=fH lo B O E wr d;have J:=aw.cq 4 E O d.small;rw[G]at L J;have ai:=Lib.hid G;have al:=Lib.hid J;clear G J r M t hO d hG a;go_wp2_with fail
    refine L.mono ?_;rintro en v0⟨rfl,j,z⟩;clear L;have D:=Lib.hid z;clear z;obtain⟨U,m1,f1,F⟩:∃x m f,aw.rdNum 8 m0 f0=(x,m,f):=⟨_,_,_,rfl⟩
    have K:=dH lo B f0 m0 v0 j;have I:=aw.cq 8 m0 f0 j.small;rw[F]at K I;have ah:=Lib.hid F;have aj:=Lib.hid I;clear F I;go_wp2_with fail
    refine K.mono ?_;rintro en v1⟨rfl,u,y⟩;clear K;have A:=Lib.hid y;clear y;have ao:=Lib.hid u;clear u j;have av:=Lib.hid (ak (ak HG.out D.out) A.out);have aa:gj.Own w1.heap.size v1 (.slice (some ⟨g,0,none⟩) n n) (C++List.replicate (n-k) default):=((HO.out.grown D.out (Or.inr (by simp[Value.ownBlock];omega))).grown A.out (Or.inr (by simp[Value.ownBlock];omega)))
    have hlen:(C++List.replicate (n-k) (default:gj.El)).length=n:=by rw[List.length_append,List.length_replicate,R.out];omega
    have o:gj.Own w1.heap.size v1 (.slice (some ⟨g,0,none⟩) (C++List.replicate (n-k) (default:gj.El)).length n) (C++List.replicate (n-k) default):=by rw[hlen];exact aa
    obtain⟨⟨u0,aG⟩,aE,⟨u1,aF⟩,aD⟩:=o.parts k (by rw[hlen];exact p.out) (.int .u32 (T:Int));have P:=Lib.hid (o.stored k (by rw[hlen];exact p.out) (T,U));have ae:=Lib.hid hlen;clear aa o hlen;go_wp2_with fail
    go_roundw
    case rel=>
     refine⟨k+1,p.out,by go_num,C++[(T,U)],m1,f1,?_,?_,?_,?_,?_,?_⟩
     ·exact Lr.oR Q.out ai.out ah.out
     ·rw[List.length_append,R.out];rfl
     ·intro c Y;rcases List.mem_append.1 Y with Y|Y
      ·exact S.out c Y
      ·rw[List.mem_singleton.1 Y];exact⟨al.out,aj.out⟩
     ·have h2:=P.out.1;have e:(C++List.replicate (n-k) (default:gj.El)).set k (T,U)=(C++[(T,U)])++List.replicate (n-(k+1)) default:=by
       have h3:=qO C (T,U) (n-k) (by have:=p.out;omega);rw[R.out]at h3;rw[h3,show n-k-1=n-(k+1)by omega]
      rw[e,ae.out]at h2;exact h2
     ·exact ao.out.grown P.out.2 (fun g' ag=>by
       cases ag;exact⟨fun h=>by have:=au.out _ h;omega,by omega⟩)
     ·exact cy av.out P.out.2 (by have:=ax.out;have:=q.out.size;omega)
    case measure=>have:=p.out;simp[intOf];omega
   ·obtain rfl:k=n:=by omega
    have hi:¬(k:Int)<(k:Int):=by omega
    have Q:=Lib.hid r;have S:=Lib.hid t;have HO:=Lib.hid hO;have HG:=Lib.hid hG;have an:=Lib.hid d;clear r M t hO d hG a;go_wp2_with fail
    go_ret;refine⟨_,rfl,k,k,l1,N,C,E,O,HU.out,Q.out,fun _=>rfl,HN.out,?_,S.out,an.out,HG.out⟩;have h2:=HO.out;rw[Nat.sub_self,List.replicate_zero,List.append_nil]at h2;exact h2.from q.out.size
 ·have V:(64:Int)<(n:Int):=by omega
  go_wp2_with fail
  go_ret;exact⟨_,rfl,n,0,l1,N,[],l1,N,HU.out,rfl,fun h=>absurd h hn,Nat.zero_le _,gj.aM _ _,by simp,ad.out,q.out⟩
theorem aw.k9(aW:Int)(l:List Nat)(e:Nat):((aw.dT aW l e).1.length:Int)<=max aW 0:=by
 unfold aw.dT;split
 ·simp;omega
 split
 ·simp;omega
 split
 ·simp;omega
 split
 ·simp;omega
 ·simp only[List.length_take,List.length_drop];omega
theorem cL{base B:Nat}{w:World}{v:Value}{l:List Nat}(h:Own base w v l)(b:B<base):v.ownBlock=none\/v.ownBlock≠some B:=by
 rcases h.form with⟨rfl,-⟩|⟨g,cap,rfl,a,-⟩
 ·exact Or.inl rfl
 ·right;simp only[Value.ownBlock,ne_eq,Option.some.injEq];omega
theorem fX.cL{base B:Nat}{w:World}{v:Value}{l:List Lr.Ch}(h:fX.Own base w v l)(b:B<base):v.ownBlock=none\/v.ownBlock≠some B:=by
 rcases h.form with⟨rfl,-⟩|⟨g,cap,rfl,a,-⟩
 ·exact Or.inl rfl
 ·right;simp only[Value.ownBlock,ne_eq,Option.some.injEq];omega
theorem gj.cL{base B:Nat}{w:World}{v:Value}{l:List Lr.Di}(h:gj.Own base w v l)(b:B<base):v.ownBlock=none\/v.ownBlock≠some B:=by
 rcases h.form with⟨rfl,-⟩|⟨g,cap,rfl,a,-⟩
 ·exact Or.inl rfl
 ·right;simp only[Value.ownBlock,ne_eq,Option.some.injEq];omega
def Fy(l:List Nat)(w w':World)(a:Ending):Prop:=∃x o n u c d b,a=.returned (cz x o n u c d)/\ki w.heap.size w' x o n u c d/\Lr.sR l x b/\Lr.xm x
set_option maxHeartbeats 6400000 in
set_option maxRecDepth 20000 in
theorem tu(lo:Nat->Prop)(B:Nat)(l:List Nat)(w:World)(hR:Rd 217 lo w B l 0)(a8:∀b,lo b->b<B):
 Calls Tryz.prog 127 #[.pointer (some ⟨B,0,none⟩)] w fun en w'=>Fy l w w' en/\w.grownBy w' (some B):=by
 have a1:Hid (B<w.heap.size):=hR.lt;have aa:=Lib.hid a8;obtain⟨W,hW⟩:∃W,W=w.alloc qk:=⟨_,rfl⟩
 have hb:=aj w qk;have hz:=Em w;rw[<-hW]at hb hz;have r:=Lib.hid (hR.below hb);have s:=Lib.hid (aR hb (some B));unfold qk at hW;clear hR a8 hb;go_enter Tryz.func127,Tryz.ntmps127;go_upto_region 1 with(fail)
 rw[<-hW];obtain⟨Q,hQ⟩:∃Q,Q=w.heap.size:=⟨_,rfl⟩
 rw[<-hQ]at hz⊢;have HQ:=Lib.hid hQ;have G:Hid (¬Q=B):=fun e=>by have:=a1.out;omega
 have o:=Lib.hid hz;clear hW hQ hz;obtain⟨x0,m0,f0,q⟩:∃x m f,aw.rdNum 4 l 0=(x,m,f):=⟨_,_,_,rfl⟩
 have p:=fH lo B 0 l W r.out;have hs:=aw.cq 4 l 0 r.out.small;rw[q]at p hs;have bg:=Lib.hid q;have bp:=Lib.hid hs;clear q hs;go_wp2_with fail
 refine p.mono ?_;rintro en v0⟨rfl,hR,j⟩;have r:=Lib.hid hR;clear p hR;have s:=Lib.hid (ak s.out j);have o:=Lib.hid ((j.block _ (lt_of_block o.out) (fun e=>G.out (Option.some.inj e))).trans o.out);clear j;obtain⟨x1,m1,f1,q⟩:∃x m f,aw.rdNum 2 m0 f0=(x,m,f):=⟨_,_,_,rfl⟩
 have p:=ya lo B f0 m0 v0 r.out;have hs:=aw.cq 2 m0 f0 r.out.small;rw[q]at p hs;have bf:=Lib.hid q;have bo:=Lib.hid hs;clear q hs;go_wp2_with fail
 refine p.mono ?_;rintro en v1⟨rfl,hR,j⟩;have r:=Lib.hid hR;clear p hR;have s:=Lib.hid (ak s.out j);have o:=Lib.hid ((j.block _ (lt_of_block o.out) (fun e=>G.out (Option.some.inj e))).trans o.out);clear j;obtain⟨x2,m2,f2,q⟩:∃x m f,aw.rdNum 8 m1 f1=(x,m,f):=⟨_,_,_,rfl⟩
 have p:=dH lo B f1 m1 v1 r.out;have hs:=aw.cq 8 m1 f1 r.out.small;rw[q]at p hs;have bd:=Lib.hid q;have aq:=Lib.hid hs;clear q hs;go_wp2_with fail
 refine p.mono ?_;rintro en v2⟨rfl,hR,j⟩;have r:=Lib.hid hR;clear p hR;have s:=Lib.hid (ak s.out j);have o:=Lib.hid ((j.block _ (lt_of_block o.out) (fun e=>G.out (Option.some.inj e))).trans o.out);clear j;obtain⟨x3,m3,f3,q⟩:∃x m f,aw.rdNum 4 m2 f2=(x,m,f):=⟨_,_,_,rfl⟩
 have p:=fH lo B f2 m2 v2 r.out;have hs:=aw.cq 4 m2 f2 r.out.small;rw[q]at p hs;have bc:=Lib.hid q;have ao:=Lib.hid hs;clear q hs;go_wp2_with fail
 refine p.mono ?_;rintro en v3⟨rfl,hR,j⟩;have r:=Lib.hid hR;clear p hR;have s:=Lib.hid (ak s.out j);have o:=Lib.hid ((j.block _ (lt_of_block o.out) (fun e=>G.out (Option.some.inj e))).trans o.out);clear j;obtain⟨x4,m4,f4,q⟩:∃x m f,aw.rdNum 1 m3 f3=(x,m,f):=⟨_,_,_,rfl⟩
 have p:=Ct lo B f3 m3 v3 r.out;have hs:=aw.cq 1 m3 f3 r.out.small;rw[q]at p hs;have bb:=Lib.hid q;have bj:=Lib.hid hs;clear q hs;go_wp2_with fail
 refine p.mono ?_;rintro en v4⟨rfl,hR,j⟩;have r:=Lib.hid hR;clear p hR;have s:=Lib.hid (ak s.out j);have o:=Lib.hid ((j.block _ (lt_of_block o.out) (fun e=>G.out (Option.some.inj e))).trans o.out);clear j;have bk:IntKind.i64.wrap (x4:Int)=(x4:Int):=IntWalk.i64_in _ (by have:=bj.out;rw[show(256:Nat)^1=256 from rfl]at this;omega);go_upto_region 4 with(fail)
 obtain⟨Y,hY⟩:∃Y,Y=v4.alloc (.cells #[.int .i64 (x4:Int),.int .u64 (x2:Int),.int .u32 (x3:Int),.int .u64 0,.int .u32 0,.int .u16 0,.slice none 0 0,.slice none 0 0,.slice none 0 0,.int .u64 0,.int .u64 0,.bool false,.int .u64 0,.slice none 0 0,.slice none 0 0] 78):=⟨_,rfl⟩
 have aK:Below v4.heap.size v4 Y:=by rw[hY];exact aj _ _
 have d:Y.heap[v4.heap.size]?=some (.cells #[.int .i64 (x4:Int),.int .u64 (x2:Int),.int .u32 (x3:Int),.int .u64 0,.int .u32 0,.int .u16 0,.slice none 0 0,.slice none 0 0,.slice none 0 0,.int .u64 0,.int .u64 0,.bool false,.int .u64 0,.slice none 0 0,.slice none 0 0] 78 (0,0)):=by rw[hY];exact heap_alloc_last _ _
 rw[<-hY];obtain⟨y,hy⟩:∃y,y=v4.heap.size:=⟨_,rfl⟩
 rw[<-hy]at d⊢;have ab:Hid (w.heap.size<=y):=by rw[hy];exact s.out.size
 have J:Hid (B<y):=Nat.lt_of_lt_of_le a1.out ab.out;have F:Hid (¬y=B):=fun e=>by have:=J.out;omega
 have ag:Hid (¬Q=y):=fun e=>by have:=lt_of_block o.out;omega
 have r:=Lib.hid (r.out.below aK);have o:=Lib.hid ((aK.block _ (lt_of_block o.out)).trans o.out);have s:=Lib.hid (ak s.out (aR aK (some B)));have HH:=Lib.hid (Lr.xJ bg.out bf.out bd.out bc.out bb.out);have a:=Lib.hid d;clear d hY aK hy bk bg bf bd bc bb bp bo;by_cases h1:x4=1
 ·as_aux_lemma=>
   subst h1;rw[show((1:Nat):Int)=1 from rfl]at a;obtain⟨V,T,S,R,P,O,N,M,L,K,D,C,A,z,u⟩:=au a.out;go_upto_region 6 with(fail)
   clear V T S R P O N M L K D C A z u;obtain⟨x5,m5,f5,q⟩:∃x m f,aw.rdNum 4 m4 f4=(x,m,f):=⟨_,_,_,rfl⟩
   have p:=fH lo B f4 m4 Y r.out;have hs:=aw.cq 4 m4 f4 r.out.small;rw[q]at p hs;have ae:=Lib.hid q;have af:=Lib.hid hs;clear q hs;go_wp2_with fail
   refine p.mono ?_;rintro en v5⟨rfl,hR,j⟩;have r:=Lib.hid hR;clear p hR;have s:=Lib.hid (ak s.out j);have o:=Lib.hid ((j.block _ (lt_of_block o.out) (fun e=>G.out (Option.some.inj e))).trans o.out);have a:=Lib.hid ((j.block _ (lt_of_block a.out) (fun e=>F.out (Option.some.inj e))).trans a.out);clear j;obtain⟨x6,m6,f6,q⟩:∃x m f,aw.rdNum 2 m5 f5=(x,m,f):=⟨_,_,_,rfl⟩
   have p:=ya lo B f5 m5 v5 r.out;have hs:=aw.cq 2 m5 f5 r.out.small;rw[q]at p hs;have aG:=Lib.hid q;have aH:=Lib.hid hs;clear q hs;go_wp2_with fail
   refine p.mono ?_;rintro en v6⟨rfl,hR,j⟩;have r:=Lib.hid hR;clear p hR;have s:=Lib.hid (ak s.out j);have o:=Lib.hid ((j.block _ (lt_of_block o.out) (fun e=>G.out (Option.some.inj e))).trans o.out);have a:=Lib.hid ((j.block _ (lt_of_block a.out) (fun e=>F.out (Option.some.inj e))).trans a.out);clear j;obtain⟨V,T,S,R,P,O,N,M,L,K,D,C,A,z,u⟩:=au a.out;have fy:=eA a.out;go_upto_region 7 with(fail)
   clear fy V T S R P O N M L K D C A z u;have d:=a.out;have d:=dy (i:=4) (.int .u32 (x5:Int)) d;simp only[List.setIfInBounds_toArray,List.set_cons_zero,List.set_cons_succ]at d;have d:=dy (i:=5) (.int .u16 (x6:Int)) d;simp only[List.setIfInBounds_toArray,List.set_cons_zero,List.set_cons_succ]at d;have n:v6.grownBy ((v6.setCell ⟨y,4,none⟩ (.int .u32 (x5:Int))).setCell ⟨y,5,none⟩ (.int .u16 (x6:Int))) (some y):=ak (an _ _ _ _) (an _ _ _ _);obtain⟨Za,hZ⟩:∃Z,Z=((v6.setCell ⟨y,4,none⟩ (.int .u32 (x5:Int))).setCell ⟨y,5,none⟩ (.int .u16 (x6:Int))):=⟨_,rfl⟩
   rw[<-hZ]at n d⊢;clear hZ;have a:=Lib.hid d;have o:=Lib.hid ((n.block _ (lt_of_block o.out) (fun e=>ag.out (Option.some.inj e))).trans o.out);have r:=Lib.hid (r.out.grown n (fun g j=>by cases j;exact⟨fun h=>by have:=aa.out _ h;have:=J.out;omega,fun e=>F.out e⟩));have s:=Lib.hid (cy s.out n ab.out);clear n d;obtain⟨t7,m7,f7,q⟩:∃t m f,aw.dT 500 m6 f6=(t,m,f):=⟨_,_,_,rfl⟩
   have p:=qa lo B f6 m6 500 Za r.out (by decide);have hs:=aw.k9 500 m6 f6;rw[q]at p hs;have a6:=Lib.hid q;have a7:=Lib.hid (show t7.length<=500 by have h2:=hs;dsimp only at h2;omega);clear q hs;go_wp2_with fail
   refine p.mono ?_;rintro en v7⟨z7,rfl,X,hR,j⟩;have r:=Lib.hid hR;clear p hR;have aT:=Lib.hid (cL X (lt_of_block a.out));have aQ:=Lib.hid (cL X (lt_of_block o.out));have ad:=Lib.hid (X.from s.out.size);have s:=Lib.hid (ak s.out j);have o:=Lib.hid ((j.block _ (lt_of_block o.out) (fun e=>G.out (Option.some.inj e))).trans o.out);have a:=Lib.hid ((j.block _ (lt_of_block a.out) (fun e=>F.out (Option.some.inj e))).trans a.out);clear j X;obtain⟨ax,aD,hz⟩:=ad.out.bz.slice;subst hz;obtain⟨t8,m8,f8,q⟩:∃t m f,aw.dT 500 m7 f7=(t,m,f):=⟨_,_,_,rfl⟩
   have p:=qa lo B f7 m7 500 v7 r.out (by decide);have hs:=aw.k9 500 m7 f7;rw[q]at p hs;have a2:=Lib.hid q;have bh:=Lib.hid (show t8.length<=500 by have h2:=hs;dsimp only at h2;omega);clear q hs;go_wp2_with fail
   refine p.mono ?_;rintro en v8⟨z8,rfl,X,hR,j⟩;have r:=Lib.hid hR;clear p hR;have aP:=Lib.hid (cL X (lt_of_block a.out));have aO:=Lib.hid (cL X (lt_of_block o.out));have aJ:=Lib.hid (X.from s.out.size);have s:=Lib.hid (ak s.out j);have o:=Lib.hid ((j.block _ (lt_of_block o.out) (fun e=>G.out (Option.some.inj e))).trans o.out);have a:=Lib.hid ((j.block _ (lt_of_block a.out) (fun e=>F.out (Option.some.inj e))).trans a.out);have ad:=Lib.hid (ad.out.grown j (cL ad.out a1.out));clear j X;obtain⟨av,aC,hz⟩:=aJ.out.bz.slice;subst hz;obtain⟨V,T,S,R,P,O,N,M,L,K,D,C,A,z,u⟩:=au a.out;have fy:=eA a.out;go_upto_region 17 with(fail)
   clear fy V T S R P O N M L K D C A z u;have d:=a.out;have d:=dy (i:=6) (.slice ax t7.length aD) d;simp only[List.setIfInBounds_toArray,List.set_cons_zero,List.set_cons_succ]at d;have d:=dy (i:=7) (.slice av t8.length aC) d;simp only[List.setIfInBounds_toArray,List.set_cons_zero,List.set_cons_succ]at d;have n:v8.grownBy ((v8.setCell ⟨y,6,none⟩ (.slice ax t7.length aD)).setCell ⟨y,7,none⟩ (.slice av t8.length aC)) (some y):=ak (an _ _ _ _) (an _ _ _ _);obtain⟨Zb,hZ⟩:∃Z,Z=((v8.setCell ⟨y,6,none⟩ (.slice ax t7.length aD)).setCell ⟨y,7,none⟩ (.slice av t8.length aC)):=⟨_,rfl⟩
   rw[<-hZ]at n d⊢;clear hZ;have a:=Lib.hid d;have o:=Lib.hid ((n.block _ (lt_of_block o.out) (fun e=>ag.out (Option.some.inj e))).trans o.out);have r:=Lib.hid (r.out.grown n (fun g j=>by cases j;exact⟨fun h=>by have:=aa.out _ h;have:=J.out;omega,fun e=>F.out e⟩));have ad:=Lib.hid (ad.out.grown n aT.out);have aJ:=Lib.hid (aJ.out.grown n aP.out);have s:=Lib.hid (cy s.out n ab.out);clear n d;go_step;refine aU rfl (.tmp 3) rfl y rfl _ a.out rfl ?_;refine aS rfl (.tmp 2) (.tmp 71) rfl Q rfl _ rfl _ o.out rfl rfl (by simp[Value.oneCell']) ?_;intro U H I;have E:Hid (_/\_):=⟨H,I⟩
   clear H I;go_wp2_with fail
   refine bodyPost_ret (v:=.agg #[.int .i64 1,.int .u64 (x2:Int),.int .u32 (x3:Int),.int .u64 0,.int .u32 (x5:Int),.int .u16 (x6:Int),.slice ax t7.length aD,.slice av t8.length aC,.slice none 0 0,.int .u64 0,.int .u64 0,.bool false,.int .u64 0,.slice none 0 0,.slice none 0 0]) (results_cell_row Tryz.results127 _ _ Q _ _ _ _ rfl E.out.1 Tryz.underlying78 rfl (dg rfl)) rfl ?_;refine⟨⟨⟨1,x2,x3,0,x5,x6,t7,t8,[],0,0,false,0,[],[]⟩,(.slice ax t7.length aD),(.slice av t8.length aC),(.slice none 0 0),(.slice none 0 0),(.slice none 0 0),_,rfl,⟨(ad.out.grown E.out.2 aQ.out),(aJ.out.grown E.out.2 aO.out),aM _ _,fX.aM _ _,gj.aM _ _,?_⟩,Lr.oy HH.out ae.out aG.out a6.out a2.out,?_⟩,cy s.out E.out.2 (Nat.le_of_eq HQ.out.symm)⟩
   ·exact⟨by dsimp only;omega,Nat.lt_of_lt_of_le aq.out (by decide),Nat.lt_of_lt_of_le ao.out (by decide),(show 0<18446744073709551616 by decide),Nat.lt_of_lt_of_le af.out (by decide),Nat.lt_of_lt_of_le aH.out (by decide),ad.out.small,aJ.out.small,(by simp),(show 0<18446744073709551616 by decide),(show 0<18446744073709551616 by decide),(show 0<18446744073709551616 by decide),(by simp),(by simp)⟩
   ·exact⟨Nat.le_trans a7.out (by decide),Nat.le_trans bh.out (by decide),(by simp),(by simp),(by simp)⟩
 have k1:((x4:Int)==1)=false:=by rw[beq_eq_false_iff_ne];omega
 by_cases h2:x4=2
 ·as_aux_lemma=>
   subst h2;rw[show((2:Nat):Int)=2 from rfl]at a;obtain⟨V,T,S,R,P,O,N,M,L,K,D,C,A,z,u⟩:=au a.out;go_upto_region 9 with(fail)
   clear V T S R P O N M L K D C A z u;obtain⟨x5,m5,f5,q⟩:∃x m f,aw.rdNum 8 m4 f4=(x,m,f):=⟨_,_,_,rfl⟩
   have p:=dH lo B f4 m4 Y r.out;have hs:=aw.cq 8 m4 f4 r.out.small;rw[q]at p hs;have ae:=Lib.hid q;have af:=Lib.hid hs;clear q hs;go_wp2_with fail
   refine p.mono ?_;rintro en v5⟨rfl,hR,j⟩;have r:=Lib.hid hR;clear p hR;have s:=Lib.hid (ak s.out j);have o:=Lib.hid ((j.block _ (lt_of_block o.out) (fun e=>G.out (Option.some.inj e))).trans o.out);have a:=Lib.hid ((j.block _ (lt_of_block a.out) (fun e=>F.out (Option.some.inj e))).trans a.out);clear j;obtain⟨x6,m6,f6,q⟩:∃x m f,aw.rdNum 8 m5 f5=(x,m,f):=⟨_,_,_,rfl⟩
   have p:=dH lo B f5 m5 v5 r.out;have hs:=aw.cq 8 m5 f5 r.out.small;rw[q]at p hs;have aG:=Lib.hid q;have aH:=Lib.hid hs;clear q hs;go_wp2_with fail
   refine p.mono ?_;rintro en v6⟨rfl,hR,j⟩;have r:=Lib.hid hR;clear p hR;have s:=Lib.hid (ak s.out j);have o:=Lib.hid ((j.block _ (lt_of_block o.out) (fun e=>G.out (Option.some.inj e))).trans o.out);have a:=Lib.hid ((j.block _ (lt_of_block a.out) (fun e=>F.out (Option.some.inj e))).trans a.out);clear j;obtain⟨x7,m7,f7,q⟩:∃x m f,aw.rdNum 8 m6 f6=(x,m,f):=⟨_,_,_,rfl⟩
   have p:=dH lo B f6 m6 v6 r.out;have hs:=aw.cq 8 m6 f6 r.out.small;rw[q]at p hs;have a6:=Lib.hid q;have a7:=Lib.hid hs;clear q hs;go_wp2_with fail
   refine p.mono ?_;rintro en v7⟨rfl,hR,j⟩;have r:=Lib.hid hR;clear p hR;have s:=Lib.hid (ak s.out j);have o:=Lib.hid ((j.block _ (lt_of_block o.out) (fun e=>G.out (Option.some.inj e))).trans o.out);have a:=Lib.hid ((j.block _ (lt_of_block a.out) (fun e=>F.out (Option.some.inj e))).trans a.out);clear j;obtain⟨V,T,S,R,P,O,N,M,L,K,D,C,A,z,u⟩:=au a.out;have fy:=eA a.out;go_upto_region 10 with(fail)
   clear fy V T S R P O N M L K D C A z u;have d:=a.out;have d:=dy (i:=3) (.int .u64 (x5:Int)) d;simp only[List.setIfInBounds_toArray,List.set_cons_zero,List.set_cons_succ]at d;have d:=dy (i:=9) (.int .u64 (x6:Int)) d;simp only[List.setIfInBounds_toArray,List.set_cons_zero,List.set_cons_succ]at d;have d:=dy (i:=10) (.int .u64 (x7:Int)) d;simp only[List.setIfInBounds_toArray,List.set_cons_zero,List.set_cons_succ]at d;have n:v7.grownBy (((v7.setCell ⟨y,3,none⟩ (.int .u64 (x5:Int))).setCell ⟨y,9,none⟩ (.int .u64 (x6:Int))).setCell ⟨y,10,none⟩ (.int .u64 (x7:Int))) (some y):=ak (ak (an _ _ _ _) (an _ _ _ _)) (an _ _ _ _);obtain⟨Za,hZ⟩:∃Z,Z=(((v7.setCell ⟨y,3,none⟩ (.int .u64 (x5:Int))).setCell ⟨y,9,none⟩ (.int .u64 (x6:Int))).setCell ⟨y,10,none⟩ (.int .u64 (x7:Int))):=⟨_,rfl⟩
   rw[<-hZ]at n d⊢;clear hZ;have a:=Lib.hid d;have o:=Lib.hid ((n.block _ (lt_of_block o.out) (fun e=>ag.out (Option.some.inj e))).trans o.out);have r:=Lib.hid (r.out.grown n (fun g j=>by cases j;exact⟨fun h=>by have:=aa.out _ h;have:=J.out;omega,fun e=>F.out e⟩));have s:=Lib.hid (cy s.out n ab.out);clear n d;obtain⟨x8,m8,f8,q⟩:∃x m f,aw.rdNum 1 m7 f7=(x,m,f):=⟨_,_,_,rfl⟩
   have p:=Ct lo B f7 m7 Za r.out;have hs:=aw.cq 1 m7 f7 r.out.small;rw[q]at p hs;have a2:=Lib.hid q;have bh:=Lib.hid hs;clear q hs;go_wp2_with fail
   refine p.mono ?_;rintro en v8⟨rfl,hR,j⟩;have r:=Lib.hid hR;clear p hR;have s:=Lib.hid (ak s.out j);have o:=Lib.hid ((j.block _ (lt_of_block o.out) (fun e=>G.out (Option.some.inj e))).trans o.out);have a:=Lib.hid ((j.block _ (lt_of_block a.out) (fun e=>F.out (Option.some.inj e))).trans a.out);clear j;have bl:((x8:Int)==1)=decide (x8=1):=du (b:=1);generalize ba:decide (x8=1)=cb at*
   have bq:=Lib.hid ba;clear ba;obtain⟨t9,m9,f9,q⟩:∃t m f,aw.dT 64 m8 f8=(t,m,f):=⟨_,_,_,rfl⟩
   have p:=qa lo B f8 m8 64 v8 r.out (by decide);have hs:=aw.k9 64 m8 f8;rw[q]at p hs;have bm:=Lib.hid q;have bn:=Lib.hid (show t9.length<=64 by have h2:=hs;dsimp only at h2;omega);clear q hs;go_wp2_with fail
   refine p.mono ?_;rintro en v9⟨z9,rfl,X,hR,j⟩;have r:=Lib.hid hR;clear p hR;have aN:=Lib.hid (cL X (lt_of_block a.out));have aL:=Lib.hid (cL X (lt_of_block o.out));have aI:=Lib.hid (X.from s.out.size);have s:=Lib.hid (ak s.out j);have o:=Lib.hid ((j.block _ (lt_of_block o.out) (fun e=>G.out (Option.some.inj e))).trans o.out);have a:=Lib.hid ((j.block _ (lt_of_block a.out) (fun e=>F.out (Option.some.inj e))).trans a.out);clear j X;obtain⟨ar,aB,hz⟩:=aI.out.bz.slice;subst hz;obtain⟨V,T,S,R,P,O,N,M,L,K,D,C,A,z,u⟩:=au a.out;have fy:=eA a.out;go_upto_region 17 with(fail)
   clear fy V T S R P O N M L K D C A z u;have d:=a.out;have d:=dy (i:=11) (.bool cb) d;simp only[List.setIfInBounds_toArray,List.set_cons_zero,List.set_cons_succ]at d;have d:=dy (i:=8) (.slice ar t9.length aB) d;simp only[List.setIfInBounds_toArray,List.set_cons_zero,List.set_cons_succ]at d;have n:v9.grownBy ((v9.setCell ⟨y,11,none⟩ (.bool cb)).setCell ⟨y,8,none⟩ (.slice ar t9.length aB)) (some y):=ak (an _ _ _ _) (an _ _ _ _);obtain⟨Zb,hZ⟩:∃Z,Z=((v9.setCell ⟨y,11,none⟩ (.bool cb)).setCell ⟨y,8,none⟩ (.slice ar t9.length aB)):=⟨_,rfl⟩
   rw[<-hZ]at n d⊢;clear hZ;have a:=Lib.hid d;have o:=Lib.hid ((n.block _ (lt_of_block o.out) (fun e=>ag.out (Option.some.inj e))).trans o.out);have r:=Lib.hid (r.out.grown n (fun g j=>by cases j;exact⟨fun h=>by have:=aa.out _ h;have:=J.out;omega,fun e=>F.out e⟩));have aI:=Lib.hid (aI.out.grown n aN.out);have s:=Lib.hid (cy s.out n ab.out);clear n d;clear bl;go_step;refine aU rfl (.tmp 3) rfl y rfl _ a.out rfl ?_;refine aS rfl (.tmp 2) (.tmp 71) rfl Q rfl _ rfl _ o.out rfl rfl (by simp[Value.oneCell']) ?_;intro U H I;have E:Hid (_/\_):=⟨H,I⟩
   clear H I;go_wp2_with fail
   refine bodyPost_ret (v:=.agg #[.int .i64 2,.int .u64 (x2:Int),.int .u32 (x3:Int),.int .u64 (x5:Int),.int .u32 0,.int .u16 0,.slice none 0 0,.slice none 0 0,.slice ar t9.length aB,.int .u64 (x6:Int),.int .u64 (x7:Int),.bool cb,.int .u64 0,.slice none 0 0,.slice none 0 0]) (results_cell_row Tryz.results127 _ _ Q _ _ _ _ rfl E.out.1 Tryz.underlying78 rfl (dg rfl)) rfl ?_;refine⟨⟨⟨2,x2,x3,x5,0,0,[],[],t9,x6,x7,cb,0,[],[]⟩,(.slice none 0 0),(.slice none 0 0),(.slice ar t9.length aB),(.slice none 0 0),(.slice none 0 0),_,rfl,⟨aM _ _,aM _ _,(aI.out.grown E.out.2 aL.out),fX.aM _ _,gj.aM _ _,?_⟩,(by rw[<-bq.out];exact Lr.tt HH.out ae.out aG.out a6.out a2.out bm.out),?_⟩,cy s.out E.out.2 (Nat.le_of_eq HQ.out.symm)⟩
   ·exact⟨by dsimp only;omega,Nat.lt_of_lt_of_le aq.out (by decide),Nat.lt_of_lt_of_le ao.out (by decide),Nat.lt_of_lt_of_le af.out (by decide),(show 0<4294967296 by decide),(show 0<65536 by decide),(by simp),(by simp),aI.out.small,Nat.lt_of_lt_of_le aH.out (by decide),Nat.lt_of_lt_of_le a7.out (by decide),(show 0<18446744073709551616 by decide),(by simp),(by simp)⟩
   ·exact⟨(by simp),(by simp),Nat.le_trans bn.out (by decide),(by simp),(by simp)⟩
 have k2:((x4:Int)==2)=false:=by rw[beq_eq_false_iff_ne];omega
 by_cases h3:x4=3
 ·as_aux_lemma=>
   subst h3;rw[show((3:Nat):Int)=3 from rfl]at a;obtain⟨V,T,S,R,P,O,N,M,L,K,D,C,A,z,u⟩:=au a.out;go_upto_region 12 with(fail)
   clear V T S R P O N M L K D C A z u;obtain⟨x5,m5,f5,q⟩:∃x m f,aw.rdNum 8 m4 f4=(x,m,f):=⟨_,_,_,rfl⟩
   have p:=dH lo B f4 m4 Y r.out;have hs:=aw.cq 8 m4 f4 r.out.small;rw[q]at p hs;have ae:=Lib.hid q;have af:=Lib.hid hs;clear q hs;go_wp2_with fail
   refine p.mono ?_;rintro en v5⟨rfl,hR,j⟩;have r:=Lib.hid hR;clear p hR;have s:=Lib.hid (ak s.out j);have o:=Lib.hid ((j.block _ (lt_of_block o.out) (fun e=>G.out (Option.some.inj e))).trans o.out);have a:=Lib.hid ((j.block _ (lt_of_block a.out) (fun e=>F.out (Option.some.inj e))).trans a.out);clear j;obtain⟨x6,m6,f6,q⟩:∃x m f,aw.rdNum 8 m5 f5=(x,m,f):=⟨_,_,_,rfl⟩
   have p:=dH lo B f5 m5 v5 r.out;have hs:=aw.cq 8 m5 f5 r.out.small;rw[q]at p hs;have aG:=Lib.hid q;have aH:=Lib.hid hs;clear q hs;go_wp2_with fail
   refine p.mono ?_;rintro en v6⟨rfl,hR,j⟩;have r:=Lib.hid hR;clear p hR;have s:=Lib.hid (ak s.out j);have o:=Lib.hid ((j.block _ (lt_of_block o.out) (fun e=>G.out (Option.some.inj e))).trans o.out);have a:=Lib.hid ((j.block _ (lt_of_block a.out) (fun e=>F.out (Option.some.inj e))).trans a.out);clear j;obtain⟨V,T,S,R,P,O,N,M,L,K,D,C,A,z,u⟩:=au a.out;have fy:=eA a.out;go_upto_region 17 with(fail)
   clear fy V T S R P O N M L K D C A z u;have d:=a.out;have d:=dy (i:=3) (.int .u64 (x5:Int)) d;simp only[List.setIfInBounds_toArray,List.set_cons_zero,List.set_cons_succ]at d;have d:=dy (i:=12) (.int .u64 (x6:Int)) d;simp only[List.setIfInBounds_toArray,List.set_cons_zero,List.set_cons_succ]at d;have n:v6.grownBy ((v6.setCell ⟨y,3,none⟩ (.int .u64 (x5:Int))).setCell ⟨y,12,none⟩ (.int .u64 (x6:Int))) (some y):=ak (an _ _ _ _) (an _ _ _ _);obtain⟨Za,hZ⟩:∃Z,Z=((v6.setCell ⟨y,3,none⟩ (.int .u64 (x5:Int))).setCell ⟨y,12,none⟩ (.int .u64 (x6:Int))):=⟨_,rfl⟩
   rw[<-hZ]at n d⊢;clear hZ;have a:=Lib.hid d;have o:=Lib.hid ((n.block _ (lt_of_block o.out) (fun e=>ag.out (Option.some.inj e))).trans o.out);have r:=Lib.hid (r.out.grown n (fun g j=>by cases j;exact⟨fun h=>by have:=aa.out _ h;have:=J.out;omega,fun e=>F.out e⟩));have s:=Lib.hid (cy s.out n ab.out);clear n d;go_step;refine aU rfl (.tmp 3) rfl y rfl _ a.out rfl ?_;refine aS rfl (.tmp 2) (.tmp 71) rfl Q rfl _ rfl _ o.out rfl rfl (by simp[Value.oneCell']) ?_;intro U H I;have E:Hid (_/\_):=⟨H,I⟩
   clear H I;go_wp2_with fail
   refine bodyPost_ret (v:=.agg #[.int .i64 3,.int .u64 (x2:Int),.int .u32 (x3:Int),.int .u64 (x5:Int),.int .u32 0,.int .u16 0,.slice none 0 0,.slice none 0 0,.slice none 0 0,.int .u64 0,.int .u64 0,.bool false,.int .u64 (x6:Int),.slice none 0 0,.slice none 0 0]) (results_cell_row Tryz.results127 _ _ Q _ _ _ _ rfl E.out.1 Tryz.underlying78 rfl (dg rfl)) rfl ?_;refine⟨⟨⟨3,x2,x3,x5,0,0,[],[],[],0,0,false,x6,[],[]⟩,(.slice none 0 0),(.slice none 0 0),(.slice none 0 0),(.slice none 0 0),(.slice none 0 0),_,rfl,⟨aM _ _,aM _ _,aM _ _,fX.aM _ _,gj.aM _ _,?_⟩,Lr.nt HH.out ae.out aG.out,?_⟩,cy s.out E.out.2 (Nat.le_of_eq HQ.out.symm)⟩
   ·exact⟨by dsimp only;omega,Nat.lt_of_lt_of_le aq.out (by decide),Nat.lt_of_lt_of_le ao.out (by decide),Nat.lt_of_lt_of_le af.out (by decide),(show 0<4294967296 by decide),(show 0<65536 by decide),(by simp),(by simp),(by simp),(show 0<18446744073709551616 by decide),(show 0<18446744073709551616 by decide),Nat.lt_of_lt_of_le aH.out (by decide),(by simp),(by simp)⟩
   ·exact⟨(by simp),(by simp),(by simp),(by simp),(by simp)⟩
 have k3:((x4:Int)==3)=false:=by rw[beq_eq_false_iff_ne];omega
 by_cases h4:x4=4
 ·as_aux_lemma=>
   subst h4;rw[show((4:Nat):Int)=4 from rfl]at a;obtain⟨V,T,S,R,P,O,N,M,L,K,D,C,A,z,u⟩:=au a.out;go_upto_region 14 with(fail)
   clear V T S R P O N M L K D C A z u;obtain⟨x5,m5,f5,q⟩:∃x m f,aw.rdNum 8 m4 f4=(x,m,f):=⟨_,_,_,rfl⟩
   have p:=dH lo B f4 m4 Y r.out;have hs:=aw.cq 8 m4 f4 r.out.small;rw[q]at p hs;have ae:=Lib.hid q;have af:=Lib.hid hs;clear q hs;go_wp2_with fail
   refine p.mono ?_;rintro en v5⟨rfl,hR,j⟩;have r:=Lib.hid hR;clear p hR;have s:=Lib.hid (ak s.out j);have o:=Lib.hid ((j.block _ (lt_of_block o.out) (fun e=>G.out (Option.some.inj e))).trans o.out);have a:=Lib.hid ((j.block _ (lt_of_block a.out) (fun e=>F.out (Option.some.inj e))).trans a.out);clear j;obtain⟨V,T,S,R,P,O,N,M,L,K,D,C,A,z,u⟩:=au a.out;have fy:=eA a.out;go_upto_region 17 with(fail)
   clear fy V T S R P O N M L K D C A z u;have d:=a.out;have d:=dy (i:=3) (.int .u64 (x5:Int)) d;simp only[List.setIfInBounds_toArray,List.set_cons_zero,List.set_cons_succ]at d;have n:v5.grownBy (v5.setCell ⟨y,3,none⟩ (.int .u64 (x5:Int))) (some y):=an _ _ _ _;obtain⟨Za,hZ⟩:∃Z,Z=(v5.setCell ⟨y,3,none⟩ (.int .u64 (x5:Int))):=⟨_,rfl⟩
   rw[<-hZ]at n d⊢;clear hZ;have a:=Lib.hid d;have o:=Lib.hid ((n.block _ (lt_of_block o.out) (fun e=>ag.out (Option.some.inj e))).trans o.out);have r:=Lib.hid (r.out.grown n (fun g j=>by cases j;exact⟨fun h=>by have:=aa.out _ h;have:=J.out;omega,fun e=>F.out e⟩));have s:=Lib.hid (cy s.out n ab.out);clear n d;go_step;refine aU rfl (.tmp 3) rfl y rfl _ a.out rfl ?_;refine aS rfl (.tmp 2) (.tmp 71) rfl Q rfl _ rfl _ o.out rfl rfl (by simp[Value.oneCell']) ?_;intro U H I;have E:Hid (_/\_):=⟨H,I⟩
   clear H I;go_wp2_with fail
   refine bodyPost_ret (v:=.agg #[.int .i64 4,.int .u64 (x2:Int),.int .u32 (x3:Int),.int .u64 (x5:Int),.int .u32 0,.int .u16 0,.slice none 0 0,.slice none 0 0,.slice none 0 0,.int .u64 0,.int .u64 0,.bool false,.int .u64 0,.slice none 0 0,.slice none 0 0]) (results_cell_row Tryz.results127 _ _ Q _ _ _ _ rfl E.out.1 Tryz.underlying78 rfl (dg rfl)) rfl ?_;refine⟨⟨⟨4,x2,x3,x5,0,0,[],[],[],0,0,false,0,[],[]⟩,(.slice none 0 0),(.slice none 0 0),(.slice none 0 0),(.slice none 0 0),(.slice none 0 0),_,rfl,⟨aM _ _,aM _ _,aM _ _,fX.aM _ _,gj.aM _ _,?_⟩,Lr.qL HH.out ae.out,?_⟩,cy s.out E.out.2 (Nat.le_of_eq HQ.out.symm)⟩
   ·exact⟨by dsimp only;omega,Nat.lt_of_lt_of_le aq.out (by decide),Nat.lt_of_lt_of_le ao.out (by decide),Nat.lt_of_lt_of_le af.out (by decide),(show 0<4294967296 by decide),(show 0<65536 by decide),(by simp),(by simp),(by simp),(show 0<18446744073709551616 by decide),(show 0<18446744073709551616 by decide),(show 0<18446744073709551616 by decide),(by simp),(by simp)⟩
   ·exact⟨(by simp),(by simp),(by simp),(by simp),(by simp)⟩
 have k4:((x4:Int)==4)=false:=by rw[beq_eq_false_iff_ne];omega
 by_cases h5:x4=5
 ·as_aux_lemma=>
   subst h5;rw[show((5:Nat):Int)=5 from rfl]at a;obtain⟨V,T,S,R,P,O,N,M,L,K,D,C,A,z,u⟩:=au a.out;go_upto_region 16 with(fail)
   clear V T S R P O N M L K D C A z u;have p:=fX.jT lo B f4 m4 Y r.out aa.out;go_wp2_with fail
   refine p.mono ?_;rintro en v5⟨z5,rfl,ht⟩;obtain⟨n5,k5,l5,g5,C5,m5,f5,hu,q,hn,hm,X,aA,hR,j⟩:=ht;have r:=Lib.hid hR;clear p hR;have aZ:=Lib.hid (fX.cL X (lt_of_block a.out));have aY:=Lib.hid (fX.cL X (lt_of_block o.out));have ah:=Lib.hid (X.from s.out.size);have al:Hid (_/\_/\_/\_/\_):=⟨hu,q,hn,hm,aA⟩
   have s:=Lib.hid (ak s.out j);have o:=Lib.hid ((j.block _ (lt_of_block o.out) (fun e=>G.out (Option.some.inj e))).trans o.out);have a:=Lib.hid ((j.block _ (lt_of_block a.out) (fun e=>F.out (Option.some.inj e))).trans a.out);clear j X hu q hn hm aA;obtain⟨az,aF,hz⟩:=ah.out.bz.slice;subst hz;have p:=gj.jT lo B f5 m5 v5 r.out aa.out;go_wp2_with fail
   refine p.mono ?_;rintro en v6⟨z6,rfl,ht⟩;obtain⟨n6,k6,l6,g6,C6,m6,f6,hu,q,hn,hm,X,aA,hR,j⟩:=ht;have r:=Lib.hid hR;clear p hR;have aW:=Lib.hid (gj.cL X (lt_of_block a.out));have aV:=Lib.hid (gj.cL X (lt_of_block o.out));have aX:=Lib.hid (X.from s.out.size);have ai:Hid (_/\_/\_/\_/\_):=⟨hu,q,hn,hm,aA⟩
   have s:=Lib.hid (ak s.out j);have o:=Lib.hid ((j.block _ (lt_of_block o.out) (fun e=>G.out (Option.some.inj e))).trans o.out);have a:=Lib.hid ((j.block _ (lt_of_block a.out) (fun e=>F.out (Option.some.inj e))).trans a.out);have ah:=Lib.hid (ah.out.grown j (fX.cL ah.out a1.out));clear j X hu q hn hm aA;obtain⟨ay,aE,hz⟩:=aX.out.bz.slice;subst hz;obtain⟨V,T,S,R,P,O,N,M,L,K,D,C,A,z,u⟩:=au a.out;have fy:=eA a.out;go_upto_region 17 with(fail)
   clear fy V T S R P O N M L K D C A z u;have d:=a.out;have d:=dy (i:=13) (.slice az C5.length aF) d;simp only[List.setIfInBounds_toArray,List.set_cons_zero,List.set_cons_succ]at d;have d:=dy (i:=14) (.slice ay C6.length aE) d;simp only[List.setIfInBounds_toArray,List.set_cons_zero,List.set_cons_succ]at d;have n:v6.grownBy ((v6.setCell ⟨y,13,none⟩ (.slice az C5.length aF)).setCell ⟨y,14,none⟩ (.slice ay C6.length aE)) (some y):=ak (an _ _ _ _) (an _ _ _ _);obtain⟨Za,hZ⟩:∃Z,Z=((v6.setCell ⟨y,13,none⟩ (.slice az C5.length aF)).setCell ⟨y,14,none⟩ (.slice ay C6.length aE)):=⟨_,rfl⟩
   rw[<-hZ]at n d⊢;clear hZ;have a:=Lib.hid d;have o:=Lib.hid ((n.block _ (lt_of_block o.out) (fun e=>ag.out (Option.some.inj e))).trans o.out);have r:=Lib.hid (r.out.grown n (fun g j=>by cases j;exact⟨fun h=>by have:=aa.out _ h;have:=J.out;omega,fun e=>F.out e⟩));have ah:=Lib.hid (ah.out.grown n aZ.out);have aX:=Lib.hid (aX.out.grown n aW.out);have s:=Lib.hid (cy s.out n ab.out);clear n d;go_step;refine aU rfl (.tmp 3) rfl y rfl _ a.out rfl ?_;refine aS rfl (.tmp 2) (.tmp 71) rfl Q rfl _ rfl _ o.out rfl rfl (by simp[Value.oneCell']) ?_;intro U H I;have E:Hid (_/\_):=⟨H,I⟩
   clear H I;go_wp2_with fail
   refine bodyPost_ret (v:=.agg #[.int .i64 5,.int .u64 (x2:Int),.int .u32 (x3:Int),.int .u64 0,.int .u32 0,.int .u16 0,.slice none 0 0,.slice none 0 0,.slice none 0 0,.int .u64 0,.int .u64 0,.bool false,.int .u64 0,.slice az C5.length aF,.slice ay C6.length aE]) (results_cell_row Tryz.results127 _ _ Q _ _ _ _ rfl E.out.1 Tryz.underlying78 rfl (dg rfl)) rfl ?_;refine⟨⟨⟨5,x2,x3,0,0,0,[],[],[],0,0,false,0,C5,C6⟩,(.slice none 0 0),(.slice none 0 0),(.slice none 0 0),(.slice az C5.length aF),(.slice ay C6.length aE),_,rfl,⟨aM _ _,aM _ _,aM _ _,(ah.out.grown E.out.2 aY.out),(aX.out.grown E.out.2 aV.out),?_⟩,Lr.oz HH.out al.out.1 al.out.2.1 al.out.2.2.1 ai.out.1 ai.out.2.1 ai.out.2.2.1,?_⟩,cy s.out E.out.2 (Nat.le_of_eq HQ.out.symm)⟩
   ·exact⟨by dsimp only;omega,Nat.lt_of_lt_of_le aq.out (by decide),Nat.lt_of_lt_of_le ao.out (by decide),(show 0<18446744073709551616 by decide),(show 0<4294967296 by decide),(show 0<65536 by decide),(by simp),(by simp),(by simp),(show 0<18446744073709551616 by decide),(show 0<18446744073709551616 by decide),(show 0<18446744073709551616 by decide),(fun c p=>by have h:=al.out.2.2.2.2 c p;exact⟨Nat.lt_of_lt_of_le h.1 (by decide),Nat.lt_of_lt_of_le h.2.1 (by decide),Nat.lt_of_lt_of_le h.2.2 (by decide)⟩),(fun c p=>by have h:=ai.out.2.2.2.2 c p;exact⟨Nat.lt_of_lt_of_le h.1 (by decide),Nat.lt_of_lt_of_le h.2 (by decide)⟩)⟩
   ·exact⟨(by simp),(by simp),(by simp),(by have h1:=al.out.2.1;have h2:=al.out.2.2.2.1;have h3:=Lr.lV k5 l5 g5;rw[h1]at h3;dsimp only at h3⊢;omega),(by have h1:=ai.out.2.1;have h2:=ai.out.2.2.2.1;have h3:=Lr.lT k6 l6 g6;rw[h1]at h3;dsimp only at h3⊢;omega)⟩
 have k5:((x4:Int)==5)=false:=by rw[beq_eq_false_iff_ne];omega
 obtain⟨V,T,S,R,P,O,N,M,L,K,D,C,A,z,u⟩:=au a.out;go_upto_region 17 with(fail)
 clear V T S R P O N M L K D C A z u;go_step;refine aU rfl (.tmp 3) rfl y rfl _ a.out rfl ?_;refine aS rfl (.tmp 2) (.tmp 71) rfl Q rfl _ rfl _ o.out rfl rfl (by simp[Value.oneCell']) ?_;intro U H I;have E:Hid (_/\_):=⟨H,I⟩
 clear H I;go_wp2_with fail
 refine bodyPost_ret (v:=.agg #[.int .i64 (x4:Int),.int .u64 (x2:Int),.int .u32 (x3:Int),.int .u64 0,.int .u32 0,.int .u16 0,.slice none 0 0,.slice none 0 0,.slice none 0 0,.int .u64 0,.int .u64 0,.bool false,.int .u64 0,.slice none 0 0,.slice none 0 0]) (results_cell_row Tryz.results127 _ _ Q _ _ _ _ rfl E.out.1 Tryz.underlying78 rfl (dg rfl)) rfl ?_;refine⟨⟨⟨(x4:Int),x2,x3,0,0,0,[],[],[],0,0,false,0,[],[]⟩,(.slice none 0 0),(.slice none 0 0),(.slice none 0 0),(.slice none 0 0),(.slice none 0 0),_,rfl,⟨aM _ _,aM _ _,aM _ _,fX.aM _ _,gj.aM _ _,?_⟩,Lr.qK (k:=x4) HH.out (by omega),?_⟩,cy s.out E.out.2 (Nat.le_of_eq HQ.out.symm)⟩
 ·exact⟨by have:=bj.out;rw[show(256:Nat)^1=256 from rfl]at this;dsimp only;omega,Nat.lt_of_lt_of_le aq.out (by decide),Nat.lt_of_lt_of_le ao.out (by decide),(show 0<18446744073709551616 by decide),(show 0<4294967296 by decide),(show 0<65536 by decide),(by simp),(by simp),(by simp),(show 0<18446744073709551616 by decide),(show 0<18446744073709551616 by decide),(show 0<18446744073709551616 by decide),(by simp),(by simp)⟩
 ·exact⟨(by simp),(by simp),(by simp),(by simp),(by simp)⟩
end Go.Proofs.YtbpodmallknhfaaGreat
