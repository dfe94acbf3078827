/- Parts of a proof. Conditions: as each row says. -/
import Derived.Test.YtbpodmallknhfaaGreatPl06
import Derived.Test.YtbpodmallknhfaaGreatPl07
import Derived.Test.YtbpodmallknhfaaGreatPl10
namespace Go.Proofs.YtbpodmallknhfaaGreat
open Go.RowKit
def CW(w:World)(v:Value)(L:List Nat):Prop:=∃b cap,v=.slice (some ⟨b,0,none⟩) L.length cap/\∀i,i<L.length->w.cell? ⟨b,i,none⟩=some (.int .u64 (L.getD i 0:Nat))
def m4(L:List Nat):List Nat:=L.flatMap (aH.le 8)
theorem eH:∀L:List Nat,(m4 L).length=8*L.length
 | []=>rfl
 |x::L=>by
  have:=eH L;unfold m4 at*
  rw[Ha,GI,this,aH.al,G2];omega
theorem AO(L:List Nat)(k:Nat)(h:k<L.length):m4 (L.take (k+1))=m4 (L.take k)++aH.le 8 (L.getD k 0):=by
 rw[dR L k h];unfold m4;rw[Io];simp
theorem CW.below{w w':World}{v:Value}{L:List Nat}(h:CW w v L)(f:Below w.heap.size w w'):CW w' v L:=by
 obtain⟨b,cap,c,e⟩:=h;refine⟨b,cap,c,fun i d=>?_⟩;have a:=e i d;rw[f.cell (p:=⟨b,i,none⟩) (Ib a)];exact a
theorem lG(w:World)(L:List Nat)(n:Nat)(a:L.length=n)(A:Array Value)(t:TypeId)(c:A=(L.map fun x:Nat=>Value.int .u64 (x:Int)).toArray):CW (w.alloc (.cells A t)) (.slice (some ⟨w.heap.size,0,none⟩) n n) L:=by
 subst c;refine⟨_,n,by rw[a],fun i b=>?_⟩;rw[Iq _ _ i _ _ (0,0) (GM _ _)];simp[GS b]
set_option maxHeartbeats 1600000 in
set_option maxRecDepth 20000 in
theorem ia(v:Value)(L:List Nat)(w:World)(h:CW w v L)(hl:L.length<=100):
 Calls Tryz.prog 114 #[v] w fun e w'=>∃u,e=.returned u/\Own w.heap.size w' u (m4 L)/\Below w.heap.size w w':=by
 obtain⟨b,cap,rfl,g⟩:=h;have H:=GD g;clear g;go_enter Tryz.func114,Tryz.ntmps114;go_wp2_with fail
 go_loopw [3,8] (fun s i wr=>∃(k:Nat)(sv:Value),sv=s/\k<=L.length/\i=.int .i64 k/\Own w.heap.size wr s (m4 (L.take k))/\Below w.heap.size w wr) (fun _ i _=>L.length-(intOf i).toNat)
 case atStart=>exact⟨0,_,rfl,G7 _,rfl,cU _ _,GF _ _⟩
 case round=>
  obtain⟨k,s,hs,I,rfl,q,n⟩:=hrel;subst hs;have B:=GD q;have o:=GD n;by_cases hlt:k<L.length
  ·have D:(k:Int)<(L.length:Int):=by omega
   have a:=H.out k hlt;have E:=n.cell (p:=⟨b,k,none⟩) (Ib a);rw[a]at E;have C:=GW ((k:Int)+1) (by omega);have hle:=eH (L.take k);rw[Hj]at hle;have G:=GD hle;have d:=GD hlt;clear a q n hle;generalize z:L.getD k 0=x at*
   have F:=GD z;clear z;go_wp2_with fail
   refine(fE (.slice none 0 0) [] x _ (aO _) (by decide)).mono ?_;rintro e w1⟨u,rfl,c,l⟩;rw[Hg]at c;have y:=GD c;have f:=GD l;clear c l;dsimp only;go_step;refine aA rfl (.tmp 12) (.tmp 14) rfl w.heap.size s _ rfl (B.out.below f.out) u _ rfl y.out.aP (by rw[G.out,aH.al];omega) (GR o.out.size f.out.size) ?_;intro v2 w2 m j _;have t:=GD m;have r:=GD ((o.out.trans (f.out.mono o.out.size)).trans j);clear m j;go_wp2_with fail
   go_roundw
   case rel=>
    refine⟨k+1,_,rfl,d.out,by go_num,?_,r.out⟩;rw[AO L k d.out,F.out];exact t.out
   case measure=>have:=d.out;simp[intOf];omega
  ·obtain rfl:k=L.length:=by omega
   have D:¬(L.length:Int)<(L.length:Int):=by omega
   clear q n hlt;go_wp2_with fail
   go_ret;have A:=B.out;rw[List.take_length]at A;exact⟨_,rfl,A,o.out⟩
theorem Cd{base:Nat}{w:World}{v:Value}{l:List Nat}(h:Own base w v l):v.ownBlock≠some w.heap.size:=by
 rcases h.form with⟨rfl,-⟩|⟨g,cap,rfl,-,-,-,a⟩
 ·simp[Value.ownBlock]
 ·have:=a.lt;simp only[Value.ownBlock,ne_eq,GO];omega
theorem pE.Bl(l:List Lr.Ch)(k:Nat)(h:k<l.length):Lr.tU (l.take (k+1))=Lr.tU (l.take k)++m4 [(l.getD k default).1,(l.getD k default).2.1,(l.getD k default).2.2]:=by
 rw[Ih h];unfold Lr.tU m4;rw[Io];simp[Lr.Fi,GS h]
theorem eR.Bi(l:List Lr.Di)(k:Nat)(h:k<l.length):Lr.tS (l.take (k+1))=(Lr.tS (l.take k)++aH.le 4 (l.getD k default).1)++aH.le 8 (l.getD k default).2:=by
 rw[Ih h];unfold Lr.tS;rw[Io];simp[Lr.Fh,GS h]
set_option maxHeartbeats 1600000 in
set_option maxRecDepth 20000 in
theorem vJ(v:Value)(l:List Lr.Ch)(w:World)(h:pE.aJ w v l)(hl:l.length<=10000):
 Calls Tryz.prog 115 #[v] w fun e w'=>∃u,e=.returned u/\Own w.heap.size w' u (aH.uv l.length++Lr.tU l)/\Below w.heap.size w w':=by
 have M:=GD h;obtain⟨p,cap,rfl⟩:=h.slice;have hu:=aH.iF (n:=l.length) (by omega);have E:IntKind.u64.wrap (l.length:Int)=(l.length:Int):=by rw[IntKind.wrap_u64];omega
 clear h;go_enter Tryz.func115,Tryz.ntmps115;go_wp2_with fail
 refine(qG (.slice none 0 0) [] l.length _ (aO _) (by omega) (by decide)).mono ?_;rintro e w1⟨R,rfl,a,b⟩;rw[Hg]at a;have o:=GD a;have c:=GD b;clear a b E;go_wp2_with fail
 go_loopw [3,12] (fun s i wr=>∃(k:Nat)(sv:Value),sv=s/\k<=l.length/\i=.int .i64 k/\Own w.heap.size wr s (aH.uv l.length++Lr.tU (l.take k))/\Below w.heap.size w wr) (fun _ i _=>l.length-(intOf i).toNat)
 case atStart=>exact⟨0,_,rfl,G7 _,rfl,by rw[IQ];simpa[Lr.tU]using o.out,c.out⟩
 case round=>
  obtain⟨k,s,hs,T,rfl,G,C⟩:=hrel;subst hs;have L:=GD G;have D:=GD C;by_cases hlt:k<l.length
  ·have O:(k:Int)<(l.length:Int):=by omega
   obtain⟨V,S,U,z⟩:=M.out.some (by omega);simp only[Hc,Jg]at z;obtain⟨rfl,rfl⟩:=z;have m:=M.out.below C;have c0:=m.at k hlt 0 (by decide);have c1:=m.at k hlt 1 (by decide);have c2:=m.at k hlt 2 (by decide);simp only[pE.enc,I9,Ji,Ia]at c0 c1 c2;have N:=GW ((k:Int)+1) (by omega);have hle:=Lr.jq (l.take k);rw[Hj]at hle;have Q:=GD hle;have q:=GD hlt;have P:=GD hu;clear G C hle m hu;generalize x:(l.getD k default).1=g at*
   generalize t:(l.getD k default).2.1=f at*
   generalize r:(l.getD k default).2.2=d at*
   have H:Hid (_/\_/\_):=⟨x,t,r⟩
   clear x t r;go_wp2_with fail
   have F:=lG (wr.alloc (.cells #[.int .u64 (g:Int),.int .u64 (f:Int),.int .u64 (d:Int)] 204)) [g,f,d] 3 rfl #[.int .u64 (g:Int),.int .u64 (f:Int),.int .u64 (d:Int)] 56 rfl;have j:Below wr.heap.size wr ((wr.alloc (.cells #[.int .u64 (g:Int),.int .u64 (f:Int),.int .u64 (d:Int)] 204)).alloc (.cells #[.int .u64 (g:Int),.int .u64 (f:Int),.int .u64 (d:Int)] 56)):=((GF _ _).alloc (GH _) _).alloc (by simp) _;have y:(wr.alloc (.cells #[.int .u64 (g:Int),.int .u64 (f:Int),.int .u64 (d:Int)] 204)).heap.size=wr.heap.size+1:=by simp
   rw[y]at F;clear y;generalize(wr.alloc (.cells #[.int .u64 (g:Int),.int .u64 (f:Int),.int .u64 (d:Int)] 204)).alloc (.cells #[.int .u64 (g:Int),.int .u64 (f:Int),.int .u64 (d:Int)] 56)=wn at*
   refine(ia _ [g,f,d] wn F (show 3<=100 by decide)).mono ?_;rintro e w1⟨u,rfl,a,b⟩;have o:=GD (a.from j.size);have c:=GD (j.trans (b.mono j.size));clear a b F j;dsimp only;go_step;refine aA rfl (.tmp 16) (.tmp 24) rfl w.heap.size s _ rfl (L.out.below c.out) u _ rfl o.out.aP (by rw[GI,Q.out,eH];have:=P.out;simp only[G2,Hz];omega) (GR D.out.size c.out.size) ?_;intro v2 w2 B A _;have J:=GD B;have I:=GD ((D.out.trans (c.out.mono D.out.size)).trans A);clear B A;go_wp2_with fail
   go_roundw
   case rel=>
    refine⟨k+1,_,rfl,q.out,by go_num,?_,I.out⟩;rw[pE.Bl l k q.out,H.out.1,H.out.2.1,H.out.2.2,<-G3];exact J.out
   case measure=>have:=q.out;simp[intOf];omega
  ·obtain rfl:k=l.length:=by omega
   have O:¬(l.length:Int)<(l.length:Int):=by omega
   clear G C hlt;go_wp2_with fail
   go_ret;have K:=L.out;rw[List.take_length]at K;exact⟨_,rfl,K,D.out⟩
set_option maxHeartbeats 1600000 in
set_option maxRecDepth 20000 in
theorem yt(v:Value)(l:List Lr.Di)(w:World)(h:eR.aJ w v l)(hl:l.length<=10000):
 Calls Tryz.prog 116 #[v] w fun e w'=>∃u,e=.returned u/\Own w.heap.size w' u (aH.uv l.length++Lr.tS l)/\Below w.heap.size w w':=by
 have Y:=GD h;obtain⟨p,cap,rfl⟩:=h.slice;have hu:=aH.iF (n:=l.length) (by omega);have L:IntKind.u64.wrap (l.length:Int)=(l.length:Int):=by rw[IntKind.wrap_u64];omega
 clear h;go_enter Tryz.func116,Tryz.ntmps116;go_wp2_with fail
 refine(qG (.slice none 0 0) [] l.length _ (aO _) (by omega) (by decide)).mono ?_;rintro e w1⟨u0,rfl,a,b⟩;rw[Hg]at a;have q:=GD a;have d:=GD b;clear a b L;go_wp2_with fail
 go_loopw [3,12] (fun s i wr=>∃(k:Nat)(sv:Value),sv=s/\k<=l.length/\i=.int .i64 k/\Own w.heap.size wr s (aH.uv l.length++Lr.tS (l.take k))/\Below w.heap.size w wr) (fun _ i _=>l.length-(intOf i).toNat)
 case atStart=>exact⟨0,_,rfl,G7 _,rfl,by rw[IQ];simpa[Lr.tS]using q.out,d.out⟩
 case round=>
  obtain⟨k,s,hs,hk,rfl,N,J⟩:=hrel;subst hs;have S:=GD N;have K:=GD J;by_cases hlt:k<l.length
  ·have hi:(k:Int)<(l.length:Int):=by omega
   obtain⟨ba,oa,ga,B⟩:=Y.out.some (by omega);simp only[Hc,Jg]at B;obtain⟨rfl,rfl⟩:=B;have m:=Y.out.below J;have c0:=m.at k hlt 0 (by decide);have c1:=m.at k hlt 1 (by decide);simp only[eR.enc,I9,Ji,Ia]at c0 c1;have aa:=GW ((k:Int)+1) (by omega);have hle:=Lr.jo (l.take k);rw[Hj]at hle;have X:=GD hle;have r:=GD hlt;have W:=GD hu;clear N J hle m hu;generalize A:(l.getD k default).1=y at*
   generalize z:(l.getD k default).2=x at*
   have V:Hid (_/\_):=⟨A,z⟩
   clear A z;have T:Hid (s.ownBlock≠some wr.heap.size):=Cd S.out;go_wp2_with fail
   have c:Below wr.heap.size wr (wr.alloc (.cells #[.int .u32 (y:Int),.int .u64 (x:Int)] 104)):=ae _ _;have g:(wr.alloc (.cells #[.int .u32 (y:Int),.int .u64 (x:Int)] 104)).heap[wr.heap.size]?=some (.cells #[.int .u32 (y:Int),.int .u64 (x:Int)] 104 (0,0)):=GM _ _;generalize wr.alloc (.cells #[.int .u32 (y:Int),.int .u64 (x:Int)] 104)=wn at*
   refine(da (.slice none 0 0) [] y _ (aO _) (by decide)).mono ?_;rintro e w1⟨u,rfl,a,b⟩;rw[Hg]at a;have f:=(b.block _ (GN g)).trans g;have q:=GD a;have d:=GD (c.trans (b.mono c.size));have I:=GD f;clear a b c g f;dsimp only;go_step;refine aA rfl (.tmp 16) (.tmp 19) rfl w.heap.size s _ rfl (S.out.below d.out) u _ rfl q.out.aP (by rw[GI,X.out,aH.al];have:=W.out;omega) (GR K.out.size d.out.size) ?_;intro v2 w2 H F C;have c:v2=v2:=rfl;have M:=bp (show w2.heap[wr.heap.size]?=_ from(C.block _ (GN I.out) (fun e=>T.out e.symm)).trans I.out);have R:=GD H;have o:=GD ((K.out.trans (d.out.mono K.out.size)).trans F);clear H F C c;go_wp2_with fail
   refine(fE (.slice none 0 0) [] x _ (aO _) (by decide)).mono ?_;rintro e w3⟨Z,rfl,j,E⟩;rw[Hg]at j;have Q:=GD j;have t:=GD E;clear j E M;dsimp only;go_step;refine aA rfl (.tmp 21) (.tmp 24) rfl w.heap.size v2 _ rfl (R.out.below t.out) Z _ rfl Q.out.aP (by rw[GI,GI,X.out,aH.al,aH.al];have:=W.out;omega) (GR o.out.size t.out.size) ?_;intro v4 w4 G D _;have P:=GD G;have O:=GD ((o.out.trans (t.out.mono o.out.size)).trans D);clear G D;go_wp2_with fail
   go_roundw
   case rel=>
    refine⟨k+1,_,rfl,r.out,by go_num,?_,O.out⟩;rw[eR.Bi l k r.out,V.out.1,V.out.2,<-G3,<-G3];exact P.out
   case measure=>have:=r.out;simp[intOf];omega
  ·obtain rfl:k=l.length:=by omega
   have hi:¬(l.length:Int)<(l.length:Int):=by omega
   clear N J hlt;go_wp2_with fail
   go_ret;have U:=S.out;rw[List.take_length]at U;exact⟨_,rfl,U,K.out⟩
end Go.Proofs.YtbpodmallknhfaaGreat
