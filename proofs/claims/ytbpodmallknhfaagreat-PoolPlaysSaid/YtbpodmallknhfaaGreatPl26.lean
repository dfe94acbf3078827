/- Parts of a proof. Conditions: as each row says. -/
import Derived.Test.YtbpodmallknhfaaGreatPl05
import Derived.Test.YtbpodmallknhfaaGreatPl15
import Derived.Test.YtbpodmallknhfaaGreatPl20
import Derived.Test.YtbpodmallknhfaaGreatPl04
import Derived.Lib.AppendZerosOnto
import Derived.Lib.SlBytesConst
import Derived.ArgAppend
namespace Go.Proofs.YtbpodmallknhfaaGreat
open Go.RowKit Go.Shelf
theorem kf{w:World}{b o:Nat}{v:Value}(h:w.cell? ⟨b,o,none⟩=some v):b<w.heap.size:=by
 rcases Hi b w.heap.size with a|a
 ·exact a
 ·unfold World.cell? at h;rw[Array.getElem?_eq_none a]at h;simp at h
theorem mC(v:Value)(K:Nat)(w:World)(p:Option Addr)(n cap:Nat)(a:v=.slice p n cap)(c:1<=K):
 Calls Tryz.prog 102 #[v,.int .i64 (K:Int)] w fun e w'=>e=.returned (.func (.func 142) #[] #[.pointer (some ⟨w.heap.size,0,none⟩),.pointer (some ⟨w.heap.size+1,0,none⟩)])/\w'=(w.alloc (.cells #[v] 57)).alloc (.cells #[.int .i64 (K:Int)] 3):=by
 subst a;have b:¬(K:Int)<1:=by omega
 go_enter Tryz.func102,Tryz.ntmps102;go_wp2;go_ret;exact⟨rfl,rfl⟩
attribute [local go_sem] Oper.semAt_some
theorem gg{F:Fence}{H:Nat}{w:World}{ops:Array Oper}{rest:List Oper}{o:Oper}{a:Act}{Q:Exit->Act->World->Prop}(D:o.guard=none)(s x:Operand)
 (L:o.op=.call {callee:=.builtin .append,args:=#[s,x],argTypes:=#[57,57]})
 (base:Nat) (v:Value) (l1:List Nat) (hs:a.eval s=v) (f:Own base w v l1)
 (G:Value) (d:List Nat) (K:a.eval x=G) (J:aJ w G d) (h0:0<d.length) (hlen:l1.length+d.length<=140737488355328) (l:base<=w.heap.size)
 (h:∀r w',Own base w' r (l1++d)->Below base w w'->w.grownBy w' v.ownBlock->wpListIn F H Tryz.prog ops Q rest (a.put o.dst r) w'):wpListIn F H Tryz.prog ops Q (o::rest) a w:=by
 obtain⟨i0,M,A,z,t⟩:=info_parts iT;have B:∀x∈l1++d,x<256:=by
  intro y m;rcases List.mem_append.1 m with m|m
  ·exact f.small y m
  ·exact J.small y m
 have O:ai l1++ai d=ai (l1++d):=by simp[ai]
 obtain⟨p,cap,rfl,_,P,hp⟩:=J.form;obtain⟨b,off,rfl,N⟩:=hp h0;refine wpListIn_append_own w D s x 57 L base 5 i0 (.int .u8 0) 1 1 Tryz.underlying57 M A z t rfl (by decide) v l1.length (ai l1) hs f.own ⟨b,off,none⟩ d.length cap (ai d) K (by simp[ai]) ?_ ?_ (by unfold maxLen;omega) (by omega) l ?_
 ·intro j u C;have n:j<d.length:=by
   rcases Hi j d.length with E|E
   ·exact E
   ·rw[He (by simpa[ai]using E)]at C;simp at C
  have q:(⟨b,off,none⟩:Addr).add j=⟨b,off+j,none⟩:=by unfold Addr.add;split<;>simp_all
  rw[q,N j n,<-C];simp[ai,GS n]
 ·intro u hu;simp only[ai,I2]at hu;obtain⟨y,_,rfl⟩:=hu;rfl
 ·intro r w' e i _;rw[O,<-GI]at e;refine h r w' ⟨e,B,by simp;omega⟩ ((GF _ _).grown i l ?_) i;intro k I;rcases f.own.2 with⟨rfl,_⟩|⟨g,c,cur,rfl,R,_⟩
  ·simp[Value.ownBlock]at I
  ·simp only[Value.ownBlock,GO]at I;omega
theorem ky{F:Fence}{k:Nat}{w:World}{ops:Array Oper}{rest:List Oper}{o:Oper}{a:Act}{Q:Exit->Act->World->Prop}(d:o.guard=none)(s x:Operand)(t j:TypeId)
 (b:o.op=.call {callee:=.builtin .append,args:=#[s,x],argTypes:=#[t,j]}) (g f:Value) (hs:a.eval s=g) (l:a.eval x=f) (i:Value) (w':World)
 (m:(Builtin.append_ #[t,j] o.type #[g,f]).run Tryz.prog w=.ok i w') (h:wpListIn F k Tryz.prog ops Q rest (a.put o.dst i) w'):wpListIn F k Tryz.prog ops Q (o::rest) a w:=by
 refine wpListIn_plain d fun K n=>?_;unfold Oper.wpIn;refine⟨by simp[Oper.about,b,resolve,Target.leads,Sem.run_pure],?_⟩;rw[Oper.semAt_plain F _ _ (by rw[b];intro c e;cases e)];simp[execOp,b,resolve,invoke,builtin,hs,l,m,Result.andThen];exact n _ _ h
theorem iP{base:Nat}{w:World}{v:Value}{l:List Nat}(h:Own base w v l){g:Nat}(a:v.ownBlock=some g)(d:g<base):False:=by
 rcases h.own.2 with⟨rfl,_⟩|⟨k,c,cur,rfl,b,_⟩
 ·simp[Value.ownBlock]at a
 ·simp only[Value.ownBlock,GO]at a;omega
theorem eJ{base:Nat}{w:World}{v:Value}{l:List Nat}(h:Own base w v l)(h0:0<l.length):∃g c,v=.slice (some ⟨g,0,none⟩) l.length c/\base<=g/\g<w.heap.size:=by
 obtain⟨g,c,d,b,a,-⟩:=gU h h0;exact⟨g,c,d,b,a⟩
theorem iS{base:Nat}{w w':World}{v:Value}{l:List Nat}(h:Own base w v l)(e:w.grownBy w' v.ownBlock):KeepsOthers w w':=KeepsOthers.of_grownBy e fun j o a b=>by
 rcases h.own.2 with⟨rfl,_⟩|⟨g,c,cur,rfl,_,d,_⟩
 ·simp[Value.ownBlock]at a
 ·simp only[Value.ownBlock,GO]at a;subst a;rw[d]at b;cases b;rfl
theorem lX(B:Nat)(t:TypeId)(v:Value):Go.Own (fun(_:List Nat)W=>Boxed W B t v):=by
 intro s X Y row hs c a;refine hs.kept c fun e=>?_;obtain⟨o,b,d⟩:=a B e.symm;rw[show X.heap[B]?=_ from hs]at b;cases b;cases d
theorem jS(n:Nat)(o:1<=n)(a c b off len cap K m:Nat)(s:1<=K/\K<=1000)(hlen:len<=100000)(f:len<=cap)(hm:len<=K*m/\K*m<len+K)(w:World)(v:a<w.heap.size)(u:c<w.heap.size)
 (g:w.cell? ⟨a,0,none⟩=some (.slice (some ⟨b,off,none⟩) len cap)) (h:w.cell? ⟨c,0,none⟩=some (.int .i64 (K:Int))):
 SeqStopsK Fence.wide n Tryz.prog 142 #[.pointer (some ⟨a,0,none⟩),.pointer (some ⟨c,0,none⟩)] (fun x:Nat=>#[tT b off len K (ie m x)]) (ua a c) (fun i=>i=List.range m) (fun pre=>∃k,k<=m/\pre=List.range k) m w:=fun l J A W j t _ q h0=>by
 have z:=(j.cell (p:=⟨a,0,none⟩) v).trans g;have y:=(j.cell (p:=⟨c,0,none⟩) u).trans h;refine(yA Fence.wide n trivial rfl o l a c b off len cap K m s hlen f hm J A q W z y h0 fun pre w' d=>t pre w' w'.drew none d (eY _ _) fun r e=>by cases e).mono ?_;rintro e B⟨he,⟨i,rfl,d⟩|⟨pre,hp,d⟩⟩
 ·exact⟨he,.inl ⟨_,rfl,d⟩⟩
 ·exact⟨he,.inr ⟨_,hp,d⟩⟩
theorem aJ.part{w:World}{g off cap len:Nat}{l:List Nat}(h:aJ w (.slice (some ⟨g,off,none⟩) len cap) l)(f:l.length=len)(K x:Nat)(k:K*x<=l.length):aJ w (tT g off len K x) (Rg.part K l x):=by
 subst f;have j:=h.drop (K*x) k;have hl:(l.drop (K*x)).length=l.length-K*x:=G5 ..;rw[<-hl]at j;have i:=j.take (yU l.length K x) (by unfold yU;rw[hl];omega);have e:(l.drop (K*x)).take (yU l.length K x)=Rg.part K l x:=by
  unfold Rg.part yU;rw[<-hl];rcases Nat.le_total K (l.drop (K*x)).length with b|b
  ·rw[Nat.min_eq_left b]
  ·rw[Nat.min_eq_right b,Hm (GH _),Hm b]
 rw[e]at i;have a:(Rg.part K l x).length=yU l.length K x:=by
  unfold Rg.part yU;rw[Hj,hl]
 obtain⟨⟨p,c,d,r,m,n⟩,q,o⟩:=i;rw[a]at d;simp only[Hc]at d;obtain⟨rfl,-,rfl⟩:=d;refine⟨⟨_,yU l.length K x,by unfold tT;rw[a],⟨by rw[a];exact GH _,?_⟩,(fun e=>by cases e),n⟩,q,o⟩;rw[<-a];omega
set_option maxRecDepth 100000 in
set_option maxHeartbeats 2000000 in
theorem vr(g off cap:Nat)(pt:Option Addr)(M:Nat)(b t:List Nat)(w:World)(hb:aJ w (.slice (some ⟨g,off,none⟩) 512 cap) b)(ae:b.length=512)(ht:aJ w (.slice pt 12 M) t)(al:t.length=12):
 CallsIn Fence.wide 4 Tryz.prog 148 #[.slice (some ⟨g,off,none⟩) 512 cap,.slice pt 12 M] w fun e w'=>∃u,e=.returned u/\Own w.heap.size w' u (Rg.laid b t)/\Below w.heap.size w w':=by
 refine callsIn_of_wp_marks Tryz.func148 rfl trivial ?_ rfl;simp only[Tryz.ntmps148,Ir,G2,Hz,Nat.reduceAdd,Nat.reduceSub,IT,IS,I3,IW,Hg,Iy];gi_wp2_with (refine⟨trivial,?_⟩;gi_at_call 102;refine(callsIn_wide.2 (mC _ 52 _ _ _ _ rfl (by decide))).mono ?_;rintro e w'⟨rfl,rfl⟩)
 obtain⟨A,L⟩:∃A,A=w.heap.size:=⟨_,rfl⟩
 obtain⟨W0,C⟩:∃W0,W0=((((w.alloc (.cells #[.slice pt 12 M] 57)).alloc (.cells #[.slice none 0 0] 57)).alloc (.cells #[.slice (some ⟨g,off,none⟩) 512 cap] 57)).alloc (.cells #[.int .i64 52] 3)):=⟨_,rfl⟩
 rw[<-C,<-L];have Z:W0.heap.size=A+4:=by rw[C,L];simp
 have bT:Boxed W0 A 57 (.slice pt 12 M):=by rw[C,L];exact(((Boxed.new w _ _).alloc _).alloc _).alloc _
 have bS:Boxed W0 (A+1) 57 (.slice none 0 0):=by
  have h:=((Boxed.new (w.alloc (.cells #[.slice pt 12 M] 57)) 57 (.slice none 0 0)).alloc (.cells #[.slice (some ⟨g,off,none⟩) 512 cap] 57)).alloc (.cells #[.int .i64 52] 3);rw[World.size_alloc]at h;rw[C,L];exact h
 have bC:Boxed W0 (A+2) 57 (.slice (some ⟨g,off,none⟩) 512 cap):=by
  have h:=(Boxed.new ((w.alloc (.cells #[.slice pt 12 M] 57)).alloc (.cells #[.slice none 0 0] 57)) 57 (.slice (some ⟨g,off,none⟩) 512 cap)).alloc (.cells #[.int .i64 52] 3);rw[World.size_alloc,World.size_alloc]at h;rw[C,L];exact h
 have bN:Boxed W0 (A+3) 3 (.int .i64 52):=by
  have h:=Boxed.new (((w.alloc (.cells #[.slice pt 12 M] 57)).alloc (.cells #[.slice none 0 0] 57)).alloc (.cells #[.slice (some ⟨g,off,none⟩) 512 cap] 57)) 3 (.int .i64 52);rw[World.size_alloc,World.size_alloc,World.size_alloc]at h;rw[C,L];exact h
 have aD:Below A w W0:=by
  rw[C,L];exact((((GF _ w).alloc (GH _) _).alloc (by simp) _).alloc (by simp;omega) _).alloc (by simp;omega) _
 have I:512<=cap/\cap<=9223372036854775807:=by
  obtain⟨p,c,H,h1,-⟩:=hb.form;simp only[Hc]at H;rw[H.2.2,<-ae];exact h1
 have aI:g<A:=by
  obtain⟨p,c,H,-,-,h2⟩:=hb.form;obtain⟨b',o',e,hc⟩:=h2 (by omega);have e1:=hc 0 (by omega);rw[L];simp only[Hc]at H;rw[e]at H;obtain⟨h5,-⟩:=H;simp only[GO,Im]at h5;rw[h5.1];exact kf e1
 have HA:=GD L;have bd:=GD Z;have bf:=GD aD;have aX:=GD I;have ah:=GD hb;have ag:=GD ht;have U:=GD ae;have J:=GD al;have r:Hid (W0.heap.size=A+4):=Z;clear C I ae al hb ht L Z;refine wpIn_rangeFunc_ownG (w:=W0) (w0:=W0) rfl (by decide) (gf:=142) (lb:=#[.pointer (some ⟨A+2,0,none⟩),.pointer (some ⟨A+3,0,none⟩)]) rfl trivial (enters_of Tryz.func142 (by kernel_rfl) rfl)
  (jS 3 (by decide) (A+2) (A+3) g off 512 cap 52 10 (by decide) (by decide) aX.out.1 (by decide) W0 (by have:=r.out;omega) (by have:=r.out;omega) bC.cell bN.cell) (fun h k=>h.trans k) (fun W l o o' hl _ _ _=>ua.put o' hl (by have:=r.out;omega) (by have:=r.out;omega)) (GF _ _) (fun _=>rfl)
  (fun pre W=>(∃v,Boxed W (A+1) 57 v/\W.ownsRow A 5 1 v (pre.flatMap fun i=>t++Rg.part 52 b (ie 10 i)).length (ai (pre.flatMap fun i=>t++Rg.part 52 b (ie 10 i)))/\(pre.length<=10))/\Boxed W A 57 (.slice pt 12 M)/\Boxed W (A+2) 57 (.slice (some ⟨g,off,none⟩) 512 cap)/\Boxed W (A+3) 3 (.int .i64 52)/\Below A w W)
  (fun _ _ _=>False)
  ?hI (fun _ _ _ _ _ hs _ _=>hs) ?h0
  (fun x=>{tmps:=#[.slice (some ⟨g,off,none⟩) 512 cap,.slice pt 12 M,undef,.pointer (some ⟨A,0,none⟩),.slice none 0 0,.pointer (some ⟨A+1,0,none⟩),tT g off 512 52 (ie 10 x),.slice (some ⟨g,off,none⟩) 512 cap,.func (.func 142) #[] #[.pointer (some ⟨A+2,0,none⟩),.pointer (some ⟨A+3,0,none⟩)],tT g off 512 52 (ie 10 x),undef,undef,undef,undef,undef,undef,undef,undef,undef,undef],defers:=[]}) ?assign ?body ?done ?stop
 case hI=>exact OwnFrom.and (Go.Own.from (holdsRow_own A (A+1) 57 5 1 (fun pre:List Nat=>(pre.flatMap fun i=>t++Rg.part 52 b (ie 10 i)).length) (fun pre=>ai (pre.flatMap fun i=>t++Rg.part 52 b (ie 10 i))) (fun pre _=>pre.length<=10)) _) (OwnFrom.and (Go.Own.from (lX A 57 (Value.slice pt 12 M)) _) (OwnFrom.and (Go.Own.from (lX (A+2) 57 (.slice (some ⟨g,off,none⟩) 512 cap)) _) (OwnFrom.and (Go.Own.from (lX (A+3) 3 (.int .i64 52)) _) (ownFrom_below (by have:=HA.out;omega) (by have:=r.out;omega)))))
 case h0=>exact⟨⟨_,bS,World.ownsRow_nil _ _ _ _,G7 _⟩,bT,bC,bN,aD⟩
 case assign=>
  intro l x W K hK;gi_wp2
  exact hK
 case body=>
  rintro l pre x W⟨⟨v,H,n,a8⟩,hT,hC,hN,hB⟩hlt;have bc:=H.cell;have bb:=hT.cell;have ba:=H.frozen;have T:A<=W.heap.size:=by have:=hB.size;have:=HA.out;omega
  obtain⟨j,s⟩:∃j,j=pre.flatMap fun i=>t++Rg.part 52 b (ie 10 i):=⟨_,rfl⟩
  rw[<-s]at n;have F:∀z∈j,z<256:=fun z hz=>by
   rw[s]at hz;obtain⟨i,-,hi⟩:=List.mem_flatMap.1 hz;rcases List.mem_append.1 hi with h1|h1
   ·exact ag.out.small z h1
   ·exact Rg.j8 ah.out.small _ z h1
  have a7:j.length<=640:=by
   rw[s];have:∀q:List Nat,(q.flatMap fun i=>t++Rg.part 52 b (ie 10 i)).length<=64*q.length:=fun q=>by
    induction q with
    |nil=>exact GH _
    |cons y q ih=>
     rw[Ha,GI,GI,J.out,G2];have:=Rg.rm 52 b (ie 10 y);omega
   have:=this pre;omega
  have a:Own A W v j:=⟨n,F,by omega⟩
  have aC:Below w.heap.size w W:=by rw[<-HA.out];exact hB
  have aK:=ag.out.below aC;have R:=(ah.out.below aC).part U.out 52 (ie 10 x) (by have:=pc (m:=10) (by decide) x;rw[U.out];omega);obtain⟨P,hP⟩:∃P,P=tT g off 512 52 (ie 10 x):=⟨_,rfl⟩
  rw[<-hP]at R⊢;have aQ:P.ownBlock=some g:=by rw[hP];rfl
  obtain⟨Y,hY⟩:∃Y,Y=Rg.part 52 b (ie 10 x):=⟨_,rfl⟩
  rw[<-hY]at R;have aN:0<Y.length/\Y.length<=52:=by
   have:=pc (m:=10) (by decide) x;rw[hY];refine⟨?_,Rg.rm _ _ _⟩;unfold Rg.part;rw[Hj,G5,U.out];omega
  have aW:=GD s;have HY:=GD hY;clear hP s hY n F;have ak:0<t.length:=by rw[J.out];decide
  have ab:j.length+t.length<=140737488355328:=by rw[J.out];omega
  have O:(j++t).length+Y.length<=140737488355328:=by rw[GI,J.out];omega
  have ad:0<((j++t)++Y).length:=by rw[GI];omega
  gi_wp2_with (first
   |(gi_at_builtin;refine gg rfl _ _ rfl A v j rfl a _ t rfl aK ak ab T ?_;intro v1 w1 f aM E;have aE:A<=w1.heap.size:=GR T E.size;have aq:=R.grown E (fun _ e=>iP a (by rw[<-e,aQ]) aI);have az:=iS a E;have aj:=H.kept E (H.not_row (by decide) a.own);have au:=hT.kept E (hT.not_row (by decide) a.own);have aB:=hC.kept E (hC.not_row (by decide) a.own);have aw:=hN.kept E (hN.not_row (by decide) a.own);clear a R)
   |(gi_at_builtin;refine gg rfl _ _ rfl A v1 (j++t) rfl f _ Y rfl aq aN.1 O aE ?_;intro v2 w2 d S B;obtain⟨g2,c2,rfl,a1,aZ⟩:=eJ d ad;have N:=aj.kept B (aj.not_row (by decide) f.own);have aP:=au.kept B (au.not_row (by decide) f.own);have aU:=aB.kept B (aB.not_row (by decide) f.own);have aR:=aw.kept B (aw.not_row (by decide) f.own);have ay:=iS f B;have a6:=N.cell;have a2:=N.frozen))
  have aH:(j++t++Y).length=j.length+(t.length+Y.length):=by rw[GI,GI];omega
  rw[aH]at d;obtain⟨V,hV⟩:∃V,V=Value.slice (some ⟨g2,0,none⟩) (j.length+(t.length+Y.length)) c2:=⟨_,rfl⟩
  rw[<-hV]at d⊢;have Q:=grownBy_setCell' w2 (A+1) V;have aG:Boxed (w2.setCell ⟨A+1,0,none⟩ V) (A+1) 57 V:=N.set V;have aO:=aP.kept Q (by simp);have aA:=aU.kept Q (by simp);have av:=aR.kept Q (by simp);have aa:=d.own.kept Q (.inr (N.not_row (by decide) d.own).symm);have aS:(pre++[x]).flatMap (fun i=>t++Rg.part 52 b (ie 10 i))=j++t++Y:=by
   rw[Io,<-aW.out,Ha,IC,Ip,<-HY.out,G3]
  refine⟨((az.trans ay).trans (KeepsOthers.setCell _ _ _)).from _,⟨aA.cell.trans hC.cell.symm,av.cell.trans hN.cell.symm⟩,⟨V,aG,?_,?_⟩,aO,aA,av,?_⟩
  ·rw[aS];exact aa
  ·rw[GI];exact hlt
  ·exact((hB.trans aM).trans S).setCell (p:=⟨A+1,0,none⟩) (G8 A) V
 case done=>
  rintro D ys W hD rfl⟨⟨v,H,n,-⟩,hT,hC,hN,hB⟩hK;have hc:=H.cell;obtain⟨j,s⟩:∃j,j=(List.range 10).flatMap fun i=>t++Rg.part 52 b (ie 10 i):=⟨_,rfl⟩
  rw[<-s]at n;have G:j=Rg.row t b 10:=by
   rw[s];unfold Rg.row;have:∀q:List Nat,(∀i∈q,i<10)->(q.flatMap fun i=>t++Rg.part 52 b (ie 10 i))=q.flatMap fun i=>t++Rg.part 52 b i:=fun q=>by
    induction q with
    |nil=>intro _;rfl
    |cons y q ih=>
     intro hq;rw[Ha,Ha,o8 (hq y (Hr ..)),ih fun i hi=>hq i (Hx _ hi)]
   exact this _ fun i hi=>List.mem_range.1 hi
  have ax:j.length=632:=by rw[G];exact Rg.sH J.out U.out
  have a:Own A W v j:=⟨n,by rw[G];exact Rg.zX ag.out.small ah.out.small 10,by omega⟩
  obtain⟨g1,c1,rfl,-,-⟩:=eJ a (by omega);have T:A<=W.heap.size:=by have:=hB.size;have:=HA.out;omega
  obtain⟨V,W2,X,d,S,B⟩:=iu a (by omega) 8 (by omega) T 57;rw[ax]at hc X;have aV:=GD d;have aF:=GD G;have ar:Below A w W2:=hB.trans S;have aY:=GD ar;obtain⟨gV,cV,rfl,-,-⟩:=eJ d (by simp);have af:=GD ((iS a B).same _ _ hK rfl);have ao:=GD hD;clear S B ar d a n ax G s hK hD;gi_wp2_with (gi_at_builtin;refine ky rfl _ _ _ _ rfl _ _ rfl rfl _ _ X ?_)
  refine⟨by simp,.inl ⟨_,_,rfl,run_takeDeferred af.out,?_⟩⟩;have an:(j++List.replicate 8 0).length=j.length+8:=by simp
  refine⟨_,results_tmp rfl _ _ _,?_⟩;have h9:=aV.out;rw[an]at h9;have aT:w.heap.size<=D:=by have:=r.out;have:=HA.out;have:=ao.out;omega
  have e9:j++List.replicate 8 0=Rg.laid b t:=by rw[aF.out];rfl
  have aL:Below w.heap.size w W2:=by rw[<-HA.out];exact aY.out
  refine⟨_,rfl,?_,aL.trans (belowK_b (w:=w) (GH _) W2 D _ _ aT af.out rfl rfl)⟩;show Own w.heap.size _ (.slice (some ⟨gV,0,none⟩) (j.length+8) cV) (Rg.laid b t);rw[<-HA.out,<-e9];exact⟨ownsRow_putObj h9.own _ af.out rfl,h9.small,h9.len⟩
 case stop=>
  rintro D c pre W _ _ h _;exact h.elim
theorem tj(g off cap:Nat)(pt:Option Addr)(d:Nat)(b t:List Nat)(w:World)(h:aJ w (.slice (some ⟨g,off,none⟩) 512 cap) b)(c:b.length=512)(f:aJ w (.slice pt 12 d) t)(a:t.length=12):
 Calls Tryz.prog 148 #[.slice (some ⟨g,off,none⟩) 512 cap,.slice pt 12 d] w fun e w'=>∃u,e=.returned u/\Own w.heap.size w' u (Rg.laid b t)/\Below w.heap.size w w':=callsIn_wide.1 (vr g off cap pt d b t w h c f a)
attribute [local go_sem] Oper.semAt_some
theorem Rg.vR:∀(n:Nat)(l:List Nat),(∀j,j<n->j∈l)->n<=l.length
 |0,_,_=>G7 _
 |n+1,l,h=>by
  have hm:=h n (Nat.lt_succ_self n);have:=Rg.vR n (l.erase n) fun j a=>(List.mem_erase_of_ne (by omega)).2 (h j (by omega));rw[List.length_erase_of_mem hm]at this;have:=List.length_pos_of_mem hm;omega
def Rg.b9(s:List Nat)(i:Nat):Nat:=s.getD (64*i+9) 0
theorem Rg.DT(s:List Nat)(m:Nat):Rg.rG s m=(List.range m).map (Rg.b9 s):=by
 unfold Rg.rG;refine List.map_congr_left fun i _=>?_;rw[Rg.gI (by decide)];rfl
set_option maxHeartbeats 1600000 in
set_option maxRecDepth 20000 in
theorem vu(p:Option Addr)(cap:Nat)(l:List Nat)(t:Nat)(E:t<256)(w:World)(h:aJ w (.slice p l.length cap) l):
 Calls Tryz.prog 185 #[.slice p l.length cap,.int .u8 (t:Int)] w fun e w'=>∃r:Int,(0<=r↔t∈l)/\e=.returned (.int .i64 r)/\w=w':=by
 have hlen:=h.len;obtain⟨D,v,u,-,-,s⟩:=h.form;simp only[Hc,Jg]at u;obtain⟨rfl,rfl⟩:=u;have C:=GD s;clear h s;go_enter Tryz.func185,Tryz.ntmps185;go_wp2_with fail
 go_loopw [8] (fun i wr=>∃k:Nat,k<=l.length/\i=.int .i64 k/\(∀j,j<k->l.getD j 0≠t)/\w=wr) (fun i _=>l.length-(intOf i).toNat)
 case atStart=>exact⟨0,G7 _,rfl,fun j d=>absurd d (Ii _),rfl⟩
 case round=>
  obtain⟨k,F,rfl,o,rfl⟩:=hrel;have z:=GD o;clear o;by_cases hlt:k<l.length
  ·have a:=GD hlt;have G:(k:Int)<(l.length:Int):=by omega
   obtain⟨b,off,rfl,q⟩:=C.out (by omega);have hu:=q k hlt;have A:=GW ((k:Int)+1) (by omega);obtain⟨y,f⟩:∃y,y=l.getD k 0:=⟨_,rfl⟩
   rw[<-f]at hu;have x:=GD f;clear q hlt f;by_cases c:t=y
   ·subst c;have m:Hid ((0:Int)<=(k:Int)↔t∈l):=by
     refine⟨fun _=>?_,fun _=>by omega⟩;rw[x.out,GG,GS a.out,IH];exact Ie _
    go_wp2_with fail
    go_ret;exact⟨_,m.out,rfl,rfl⟩
   ·have B:((t:Int)==(y:Int))=false:=by rw[G6];omega
    have g:Hid (∀j,j<k+1->l.getD j 0≠t):=fun j d=>by
     by_cases e:j=k
     ·rw[e,<-x.out];exact fun h=>c h.symm
     ·exact z.out j (by omega)
    have n:¬(t:Int)=(y:Int):=by omega
    go_wp2_with fail
    go_roundw
    case rel=>exact⟨k+1,by have:=a.out;omega,by go_num,g.out,by first|rfl|trivial⟩
    case measure=>have:=a.out;simp[intOf];omega
  ·obtain rfl:k=l.length:=by omega
   have m:Hid ((0:Int)<= -1↔t∈l):=by
    refine⟨fun h=>absurd h (by decide),fun hm=>?_⟩;obtain⟨j,d,e⟩:=List.getElem_of_mem hm;have:=z.out j d;rw[GG,GS d,IH]at this;exact absurd e this
   go_wp2_with fail
   go_ret;exact⟨_,m.out,rfl,rfl⟩
theorem pQ(p:Option Addr)(cap:Nat)(l:List Nat)(t:Nat)(i:t<256)(w:World)(h:aJ w (.slice p l.length cap) l):
 Calls Tryz.prog 177 #[.slice p l.length cap,.int .u8 (t:Int)] w fun e w'=>e=.returned (.bool (decide (t∈l)))/\w=w':=by
 have g:=vu p cap l t i w h;have d:=GD g;clear g h;go_enter Tryz.func177,Tryz.ntmps177;go_wp2_with fail
 refine d.out.mono ?_;rintro e w'⟨r,c,rfl,rfl⟩;by_cases hm:t∈l
 ·have h0:=c.2 hm;have a:¬r<0:=by omega
  have f:=GD (GK hm);have b:=GD (GK h0);clear c hm d;go_wp2_with fail
  go_ret;refine⟨?_,rfl⟩;rw[f.out];rfl
 ·have h0:r<0:=by
   rcases Int.lt_or_le r 0 with h|h
   ·exact h
   ·exact absurd (c.1 h) hm
  have a:¬0<=r:=by omega
  have f:=GD (GY hm);have b:=GD (GY a);clear c hm d;go_wp2_with fail
  go_ret;refine⟨?_,rfl⟩;show Ending.returned (.bool (decide (0<=r)))=_;rw[f.out,b.out]
theorem jH{w:World}(ty:TypeId)(base:Nat)(v:Value)(l1:List Nat)(e:Own base w v l1)(A:Value)(a:List Nat)(C:aJ w A a)(h0:0<a.length)(hlen:l1.length+a.length<=140737488355328)(h:base<=w.heap.size):
 ∃n w',(Builtin.append_ #[57,57] ty #[v,A]).run Tryz.prog w=.ok n w'/\Own base w' n (l1++a)/\Below base w w'/\w.grownBy w' v.ownBlock:=by
 obtain⟨i0,E,r,q,o⟩:=info_parts iT;have s:∀x∈l1++a,x<256:=by
  intro y i;rcases List.mem_append.1 i with i|i
  ·exact e.small y i
  ·exact C.small y i
 have G:ai l1++ai a=ai (l1++a):=by simp[ai]
 obtain⟨p,cap,rfl,_,H,hp⟩:=C.form;obtain⟨b,off,rfl,F⟩:=hp h0;obtain⟨n,w',D,d,f,-⟩:=run_append_own (P:=Tryz.prog) w base 57 ty 5 i0 (.int .u8 0) 1 1 Tryz.underlying57 E r q o rfl (by decide) v l1.length (ai l1) e.own ⟨b,off,none⟩ a.length cap (ai a) (by simp[ai]) (by
  intro j u t;have l:j<a.length:=by
   rcases Hi j a.length with z|z
   ·exact z
   ·rw[He (by simpa[ai]using z)]at t;simp at t
  have m:(⟨b,off,none⟩:Addr).add j=⟨b,off+j,none⟩:=by unfold Addr.add;split<;>simp_all
  rw[m,F j l,<-t];simp[ai,GS l]) (by
  intro u hu;simp only[ai,I2]at hu;obtain⟨y,_,rfl⟩:=hu;rfl) (by unfold maxLen;omega) (by omega) h
 rw[G,<-GI]at d;refine⟨n,w',D,⟨d,s,by simp;omega⟩,(GF _ _).grown f h ?_,f⟩;intro k B;rcases e.own.2 with⟨rfl,_⟩|⟨g,c,cur,rfl,I,_⟩
 ·simp[Value.ownBlock]at B
 ·simp only[Value.ownBlock,GO]at B;omega
theorem fW{F:Fence}{j:Nat}{w:World}{o:Oper}{a:Act}{K:Act->World->Prop}{Q:Exit->Act->World->Prop}(s x:Operand)(t i:TypeId)
 (b:o.op=.call {callee:=.builtin .append,args:=#[s,x],argTypes:=#[t,i]}) (f e:Value) (hs:a.eval s=f) (k:a.eval x=e) (g:Value) (w':World)
 (l:(Builtin.append_ #[t,i] o.type #[f,e]).run Tryz.prog w=.ok g w') (h:K (a.put o.dst g) w'):o.wpIn F j Tryz.prog a w K Q:=by
 unfold Oper.wpIn;refine⟨by simp[Oper.about,b,resolve,Target.leads,Sem.run_pure],?_⟩;rw[Oper.semAt_plain F _ _ (by rw[b];intro c d;cases d)];simp[execOp,b,resolve,invoke,builtin,hs,k,l,Result.andThen];exact h
theorem jg{base:Nat}{w:World}{v:Value}{l:List Nat}(h:Own base w v l){q:Nat}(b:w.heap.size<=q):v.ownBlock≠some q:=by
 intro e;rcases h.own.2 with⟨rfl,_⟩|⟨k,c,cur,rfl,_,a,_⟩
 ·simp[Value.ownBlock]at e
 ·simp only[Value.ownBlock,GO]at e;have:=GN a;omega
theorem aJ.at_{w:World}{g off cap:Nat}{l:List Nat}{n:Nat}(h:aJ w (.slice (some ⟨g,off,none⟩) n cap) l)(hl:l.length=n)(i:Nat)(f:i<n):w.cell? ⟨g,off+i,none⟩=some (.int .u8 (l.getD i 0:Nat)):=by
 obtain⟨p,c,a,-,-,d⟩:=h.form;obtain⟨b,o,e,d⟩:=d (by omega);simp only[Hc]at a;rw[e]at a;simp only[GO,Im]at a;obtain⟨⟨rfl,rfl,-⟩,-⟩:=a;exact d i (by omega)
theorem zf(x:Int)(b:0<=x)(a:x<256):IntKind.u8.wrap x=x:=by
 have e:IntKind.u8.wrap x=x%256:=by simp[IntKind.wrap,IntKind.bits,IntKind.signed]
 omega
def E6(v P:Value)(g a x:Nat)(A H:Nat)(i:Nat)(u:Value)(w:World):Prop:=
 match i with
 |0=>u=v
 |1=>u=P
 |2=>u=.pointer (some ⟨g,a,none⟩)
 |3=>u=.int .u8 (x:Int)
 |4=>∃q,u=.slice (some ⟨q,0,none⟩) 1 1/\A<=q/\q≠H/\v.ownBlock≠some q/\aJ w u [x]
 |_=>True
structure Ed(W:World)(A:Nat)(v:Value)(L:List Nat)(x:Nat)(C:Value)(D:Nat->Bool)(xs:Nat->Value)(w:World):Prop where
 bq:KeepsOthers W w
 below:Below A W w
 c1:Boxed w (A+1) 57 C
 c2:Boxed w (A+2) 3 (.int .i64 64)
 sz:A<=w.heap.size
 s0:D 5=false->Own A w v L/\Boxed w A 57 v
 s1:D 5=true->Own A w (xs 5) (L++[x])/\∃u,Boxed w A 57 u/\(D 6=true->u=xs 5)
theorem Ed.alloc{W:World}{A:Nat}{v:Value}{L:List Nat}{x:Nat}{C:Value}{D:Nat->Bool}{xs:Nat->Value}{w:World}(h:Ed W A v L x C D xs w)(o:Obj):Ed W A v L x C D xs (w.alloc o):=by
 have a:Below w.heap.size w (w.alloc o):=(GF _ w).alloc (GH _) _;refine⟨h.bq.trans (KeepsOthers.alloc _ _),h.below.alloc h.sz _,h.c1.alloc _,h.c2.alloc _,by have:=h.sz;simp;omega,fun e=>⟨(h.s0 e).1.below a,(h.s0 e).2.alloc _⟩,fun e=>?_⟩;obtain⟨d,u,c,b⟩:=h.s1 e;exact⟨d.below a,u,c.alloc _,b⟩
def Gy(A:Nat)(v:Value)(k:Nat):Prop:=k=A\/v.ownBlock=some k
theorem Ed.quiet{W:World}{A:Nat}{v:Value}{L:List Nat}{x:Nat}{C:Value}{D:Nat->Bool}{xs:Nat->Value}{w:World}(h:Ed W A v L x C D xs w)(k:Nat)(u:Value)(a:k≠5)(d:k≠6):Ed W A v L x C (Ord.bB D k) (Ord.set xs k u) w:=by
 have b:Ord.bB D k 5=D 5:=GQ (H4 a);have e:Ord.bB D k 6=D 6:=GQ (H4 d);have c:Ord.set xs k u 5=xs 5:=GQ (H4 a);exact⟨h.bq,h.below,h.c1,h.c2,h.sz,by rw[b];exact h.s0,by rw[b,e,c];exact h.s1⟩
set_option maxRecDepth 100000 in
set_option maxHeartbeats 2000000 in
theorem A9(g off cap:Nat)(s:List Nat)(w:World)(hb:aJ w (.slice (some ⟨g,off,none⟩) 640 cap) s)(T:s.length=640):
 CallsIn Fence.wide 4 Tryz.prog 149 #[.slice (some ⟨g,off,none⟩) 640 cap] w fun e w'=>∃t:Nat,t<256/\t∉Rg.rG s 10/\e=.returned (.int .u8 (t:Int))/\Below w.heap.size w w':=by
 refine callsIn_of_wp_marks Tryz.func149 rfl trivial ?_ rfl;simp only[Tryz.ntmps149,Ir,G2,Hz,Nat.reduceAdd,Nat.reduceSub,IT,IS,I3,IW,Hg,Iy];gi_wp2_with (refine⟨trivial,?_⟩;gi_at_call 102;refine(callsIn_wide.2 (mC _ 64 _ _ _ _ rfl (by decide))).mono ?_;rintro e w'⟨rfl,rfl⟩)
 obtain⟨A,d⟩:∃A,A=w.heap.size:=⟨_,rfl⟩
 obtain⟨W0,r⟩:∃W0,W0=(((w.alloc (.cells #[.slice none 0 0] 57)).alloc (.cells #[.slice (some ⟨g,off,none⟩) 640 cap] 57)).alloc (.cells #[.int .i64 64] 3)):=⟨_,rfl⟩
 rw[<-r,<-d];have ad:W0.heap.size=A+3:=by rw[r,d];simp
 have bS:Boxed W0 A 57 (.slice none 0 0):=by rw[r,d];exact((Boxed.new w _ _).alloc _).alloc _
 have bC:Boxed W0 (A+1) 57 (.slice (some ⟨g,off,none⟩) 640 cap):=by
  have h:=(Boxed.new (w.alloc (.cells #[.slice none 0 0] 57)) 57 (.slice (some ⟨g,off,none⟩) 640 cap)).alloc (.cells #[.int .i64 64] 3);rw[World.size_alloc]at h;rw[r,d];exact h
 have bN:Boxed W0 (A+2) 3 (.int .i64 64):=by
  have h:=Boxed.new ((w.alloc (.cells #[.slice none 0 0] 57)).alloc (.cells #[.slice (some ⟨g,off,none⟩) 640 cap] 57)) 3 (.int .i64 64);rw[World.size_alloc,World.size_alloc]at h;rw[r,d];exact h
 have aH:Below A w W0:=by
  rw[r,d];exact(((GF _ w).alloc (GH _) _).alloc (by simp) _).alloc (by simp;omega) _
 have G:640<=cap/\cap<=9223372036854775807:=by
  obtain⟨p,c,Q,h1,-⟩:=hb.form;simp only[Hc]at Q;rw[Q.2.2,<-T];exact h1
 have Z:=GD d;have E:Hid (W0.heap.size=A+3):=ad;have aQ:=GD G;have I:=GD hb;have ar:=GD T;clear r G T hb d ad;refine wpIn_rangeFunc_ownG (w:=W0) (w0:=W0) rfl (by decide) (gf:=142) (lb:=#[.pointer (some ⟨A+1,0,none⟩),.pointer (some ⟨A+2,0,none⟩)]) rfl trivial (enters_of Tryz.func142 (by kernel_rfl) rfl)
  (jS 3 (by decide) (A+1) (A+2) g off 640 cap 64 10 (by decide) (by decide) aQ.out.1 (by decide) W0 (by have:=E.out;omega) (by have:=E.out;omega) bC.cell bN.cell) (fun h k=>h.trans k) (fun W l o o' hl _ _ _=>ua.put o' hl (by have:=E.out;omega) (by have:=E.out;omega)) (GF _ _) (fun _=>rfl)
  (fun pre W=>(∃v,Boxed W A 57 v/\W.ownsRow A 5 1 v (pre.map fun i=>Rg.b9 s (ie 10 i)).length (ai (pre.map fun i=>Rg.b9 s (ie 10 i)))/\(pre.length<=10))/\Boxed W (A+1) 57 (.slice (some ⟨g,off,none⟩) 640 cap)/\Boxed W (A+2) 3 (.int .i64 64)/\Below A w W)
  (fun _ _ _=>False)
  ?hI (fun _ _ _ _ _ hs _ _=>hs) ?h0
  (fun x=>{tmps:=#[.slice (some ⟨g,off,none⟩) 640 cap,undef,.int .u8 0,.pointer (some ⟨A,0,none⟩),tT g off 640 64 (ie 10 x),undef,.slice (some ⟨g,off,none⟩) 640 cap,.func (.func 142) #[] #[.pointer (some ⟨A+1,0,none⟩),.pointer (some ⟨A+2,0,none⟩)],tT g off 640 64 (ie 10 x),undef,undef,undef,undef,undef,undef,undef,undef,undef,undef,undef,undef],defers:=[]}) ?assign ?body ?done ?stop
 case hI=>exact OwnFrom.and (Go.Own.from (holdsRow_own A A 57 5 1 (fun pre:List Nat=>(pre.map fun i=>Rg.b9 s (ie 10 i)).length) (fun pre=>ai (pre.map fun i=>Rg.b9 s (ie 10 i))) (fun pre _=>pre.length<=10)) _) (OwnFrom.and (Go.Own.from (lX (A+1) 57 (.slice (some ⟨g,off,none⟩) 640 cap)) _) (OwnFrom.and (Go.Own.from (lX (A+2) 3 (.int .i64 64)) _) (ownFrom_below (by have:=Z.out;omega) (by have:=E.out;omega))))
 case h0=>exact⟨⟨_,bS,World.ownsRow_nil _ _ _ _,G7 _⟩,bC,bN,aH⟩
 case assign=>
  intro l x W K m;gi_wp2
  exact m
 case body=>
  rintro l pre x W⟨⟨v,Q,a,au⟩,hC,hN,Y⟩hlt;have aI:A<=W.heap.size:=by have:=Y.size;have:=Z.out;omega
  obtain⟨L,H⟩:∃L,L=pre.map fun i=>Rg.b9 s (ie 10 i):=⟨_,rfl⟩
  rw[<-H]at a;have C:∀z∈L,z<256:=fun z hz=>by
   rw[H]at hz;obtain⟨i,-,rfl⟩:=List.mem_map.1 hz;exact I.out.getD _
  have U:L.length<=10:=by rw[H,Hb];exact au
  have n:Own A W v L:=⟨a,C,by omega⟩
  have aG:Below w.heap.size w W:=by rw[<-Z.out];exact Y
  have az:g<A:=by rw[Z.out];exact kf (I.out.at_ ar.out 0 (by decide))
  have aA:ie 10 x<10:=pc (by decide) x;have F:W.cell? ⟨g,off+(64*ie 10 x+9),none⟩=some (.int .u8 ((Rg.b9 s (ie 10 x):Nat):Int)):=(I.out.below aG).at_ ar.out (64*ie 10 x+9) (by omega);have hP:tT g off 640 64 (ie 10 x)=.slice (some ⟨g,off+64*ie 10 x,none⟩) 64 64:=by
   unfold tT yU;rw[Nat.min_eq_left (by omega)]
  rw[hP];obtain⟨y,hy⟩:∃y,y=Rg.b9 s (ie 10 x):=⟨_,rfl⟩
  obtain⟨X,aj⟩:∃X,X=off+64*ie 10 x+9:=⟨_,rfl⟩
  obtain⟨oP,ah⟩:∃oP,oP=off+64*ie 10 x:=⟨_,rfl⟩
  rw[<-hy,show off+(64*ie 10 x+9)=X by rw[aj];omega]at F;rw[<-ah];have P:y<256:=by rw[hy];exact I.out.getD _
  have HL:=GD H;have HY:=GD hy;have aK:Hid (X=oP+9):=by show _=_;omega
  clear hP H hy aj ah aA C a;gi_wp2
  refine Ord.In.walk (fun _=>trivial) (E6 v (.slice (some ⟨g,oP,none⟩) 64 64) g X y A A) (Ed W A v L y (.slice (some ⟨g,off,none⟩) 640 cap)) (Touch (Gy A v)) (by kernel_rfl) (by kernel_rfl) ?fr ?hfr ?hT ?hR ?he ?hend;case hfr=>
   intro xs;simp only[Ord.fill,Act.put,GP,GX,GV];rfl
  case hT=>
   intro k u w1 w2 ht N;rcases k with _|_|_|_|_|k
   ·exact N
   ·exact N
   ·exact N
   ·exact N
   ·obtain⟨q,h1,h2,h3,h4,O⟩:=N;refine⟨q,h1,h2,h3,h4,ht.aP O fun _ g' e=>?_⟩;rw[h1]at e;simp only[Value.ownBlock,GO]at e;subst e;rintro(h|h)
    ·exact h3 h
    ·exact h4 h
   ·trivial
  case hR=>
   intro xs;exact⟨⟨GH _,fun _ _ hk _=>hk⟩,(GF _ W).drew,hC,hN,aI,fun _=>⟨n.below ((GF _ W).drew),Q⟩,fun e=>by cases e⟩
  case he=>
   iterate 7 (refine Ord.In.aa (fun D xs w2 V hC hP hR d K' m=>?_) ?_;rotate_left)
   rotate_left
   ·have O:D 5=false:=by
     cases e:D 5 with
     |false=>rfl
     |true=>have:=Ord.af hC 5 0 (by kernel_rfl) e;rw[V]at this;cases this
    have hc:=(hR.s0 O).2.cell;clear d;go_simp;exact m _ _ ⟨_,rfl,Touch.refl _ _,hR.quiet 0 _ (by decide) (by decide),rfl⟩
   ·clear d;go_simp;exact m _ _ ⟨_,rfl,Touch.refl _ _,hR.quiet 1 _ (by decide) (by decide),rfl⟩
   ·have q1:=Ord.ab _ d 1 (by decide);simp only[E6]at q1;simp only[q1]at m⊢;clear d;go_simp;exact m _ _ ⟨_,rfl,Touch.refl _ _,hR.quiet 2 _ (by decide) (by decide),by show _=_;rw[aK.out]⟩
   ·have q2:=Ord.ab _ d 2 (by decide);simp only[E6]at q2;simp only[q2]at m⊢;clear d;have hc:=(hR.below.cell (p:=⟨g,X,none⟩) az).trans F;go_simp;exact m _ _ ⟨_,rfl,Touch.refl _ _,hR.quiet 3 _ (by decide) (by decide),rfl⟩
   ·have q3:=Ord.ab _ d 3 (by decide);simp only[E6]at q3;simp only[q3]at m⊢;clear d;have O:D 5=false:=by
     cases e:D 5 with
     |false=>rfl
     |true=>have:=Ord.af hC 5 4 (by kernel_rfl) e;rw[V]at this;cases this
    have aS:=(hR.s0 O).2.lt;have av:=jg (hR.s0 O).1 (GH w2.heap.size);go_simp;exact m _ _ ⟨_,rfl,Touch.ax ((GF _ w2).alloc (GH _) _),(hR.alloc _).quiet 4 _ (by decide) (by decide),⟨w2.heap.size,rfl,hR.sz,by omega,av,eN w2 [y] 1 (by simp) _ _ (by simpa using P) (by simp)⟩⟩
   ·have q0:=Ord.ab _ d 0 (by decide);simp only[E6]at q0;obtain⟨q,q4,aV,aU,aT,ag⟩:=Ord.ab _ d 4 (by decide);simp only[q0,q4]at m⊢;rw[q4]at ag;clear d;obtain⟨B,f⟩:=hR.s0 V;obtain⟨v5,w5,ae,aD,aC,b⟩:=jH 57 A v L B _ [y] ag (by simp) (by simp;omega) hR.sz;have h6:D 6=false:=by
     cases e:D 6 with
     |false=>rfl
     |true=>have:=Ord.af hC 6 5 (by kernel_rfl) e;rw[V]at this;cases this
    refine(GU (by rfl)).mpr ?_;refine fW (.tmp 9) (.tmp 13) _ _ rfl _ _ rfl rfl v5 w5 ae ?_;refine m _ _ ⟨v5,rfl,⟨b.os,b.tape,b.output,b.size,fun i hi hs=>b.block i hi fun e=>hs (GL e.symm)⟩,?_,trivial⟩;have x5:Ord.set xs 5 v5 5=v5:=GU rfl;have d5:Ord.bB D 5 5=true:=GU rfl;have d6:Ord.bB D 5 6=D 6:=GQ (by decide);exact⟨hR.bq.trans (iS B b),hR.below.trans aC,hR.c1.kept b (hR.c1.not_row (by decide) B.own),hR.c2.kept b (hR.c2.not_row (by decide) B.own),GR hR.sz b.size,(fun e=>by rw[d5]at e;cases e),fun _=>⟨by rw[x5];exact aD,v,f.kept b (f.not_row (by decide) B.own),fun e=>by rw[d6,h6]at e;cases e⟩⟩
   ·clear d;have O:D 5=true:=hP {on:=5,ground:=.data} (by simp) rfl;obtain⟨B,u,f,-⟩:=hR.s1 O;obtain⟨g5,c5,e5,-,-⟩:=eJ B (by simp);simp only[e5]at m⊢;rw[e5]at B;have aX:=f.cell;have aW:=f.frozen;have R:(L++[y]).length=L.length+1:=by simp
    rw[R]at B m;go_simp;refine m _ _ ⟨undef,rfl,Touch.set A 0 _ (GJ rfl),?_,trivial⟩;have x5:Ord.set xs 6 undef 5=xs 5:=GQ (by decide);have d5:Ord.bB D 6 5=D 5:=GQ (by decide);have J:=grownBy_setCell' w2 A (.slice (some ⟨g5,0,none⟩) (L.length+1) c5);refine⟨hR.bq.trans (KeepsOthers.setCell _ _ _),hR.below.setCell (p:=⟨A,0,none⟩) (GH A) _,hR.c1.kept J (by simp),hR.c2.kept J (by simp),GR hR.sz J.size,(fun e=>by rw[d5,O]at e;cases e),fun _=>⟨?_,_,f.set _,fun _=>?_⟩⟩
    ·rw[x5,e5,R];exact⟨B.own.kept J (.inr (f.not_row (by decide) B.own).symm),B.small,B.len⟩
    ·rw[x5,e5,R]
   exact Ord.In.ay
  case hend=>
   intro D xs w9 hR N;obtain⟨B,u,f,hu⟩:=hR.s1 (N 5 (by decide)).1;obtain rfl:=hu (N 6 (by decide)).1;clear N;gi_wp2
   have an:(pre++[x]).map (fun i=>Rg.b9 s (ie 10 i))=L++[y]:=by
    rw[List.map_append,<-HL.out,HY.out];rfl
   refine⟨hR.bq.from _,⟨hR.c1.cell.trans hC.cell.symm,hR.c2.cell.trans hN.cell.symm⟩,⟨_,f,?_,?_⟩,hR.c1,hR.c2,Y.trans hR.below⟩
   ·have aE:(pre++[x]).length=(L++[y]).length:=by
     have:=Ho List.length an;rw[Hb]at this;exact this
    rw[an,aE];exact B.own
   ·rw[GI];exact hlt
 case done=>
  rintro D ys W V rfl⟨⟨v,Q,a,-⟩,hC,hN,Y⟩m;obtain⟨L,H⟩:∃L,L=(List.range 10).map fun i=>Rg.b9 s (ie 10 i):=⟨_,rfl⟩
  rw[<-H]at a;have al:L=Rg.rG s 10:=by
   rw[H,Rg.DT];refine List.map_congr_left fun i hi=>?_;rw[o8 (List.mem_range.1 hi)]
  have U:L.length=10:=by rw[H];simp
  have n:Own A W v L:=⟨a,fun z hz=>by
   rw[H]at hz;obtain⟨i,-,rfl⟩:=List.mem_map.1 hz;exact I.out.getD _,by omega⟩
  have S:=n.aP;obtain⟨g1,c1,rfl,-,-⟩:=eJ n (by omega);have hc:=Q.cell;have aN:=GD al;have aM:=GD U;have ao:=GD m;have aO:=GD V;have aR:=GD Y;clear a n H al U m V Y Q hC hN;gi_wp2
  gi_loopw [5] (fun i wr=>∃k:Nat,k<=10/\i=.int .u8 (k:Int)/\(∀j,j<k->j∈L)/\W=wr) (fun i _=>11-(intOf i).toNat)
  case atStart=>exact⟨0,G7 _,rfl,fun j hj=>absurd hj (Ii _),rfl⟩
  case round=>
   obtain⟨k,hk,rfl,hn,rfl⟩:=hrel;have HN:=GD hn;have M:=pQ _ c1 L k (by omega) W S;by_cases hm:k∈L
   ·have aw:=Rg.vR (k+1) L fun j hj=>by
     by_cases e:j=k
     ·rw[e];exact hm
     ·exact hn j (by omega)
    have ak:k+1<=10:=by have:=aM.out;omega
    rw[GK hm]at M;have hw:=zf ((k:Int)+1) (by omega) (by omega);have aL:Hid (∀j,j<k+1->j∈L):=fun j hj=>by
     by_cases e:j=k
     ·rw[e];exact hm
     ·exact hn j (by omega)
    have aq:Hid (k+1<=10):=ak;clear hn hm aw ak S;gi_wp2_with (refine⟨trivial,?_⟩;gi_at_call 177;refine(callsIn_wide.2 M).mono ?_;rintro e w'⟨rfl,rfl⟩)
    go_roundw
    case rel=>exact⟨k+1,aq.out,by go_num,aL.out,by first|rfl|trivial⟩
    case measure=>have:=aq.out;simp[intOf];omega
   ·rw[GY hm]at M;have HM:=GD hm;clear hn hm S;gi_wp2_with (refine⟨trivial,?_⟩;gi_at_call 177;refine(callsIn_wide.2 M).mono ?_;rintro e w'⟨rfl,rfl⟩)
    refine⟨by simp,.inl ⟨_,_,rfl,run_takeDeferred ao.out,?_⟩⟩;have aF:w.heap.size<=D:=by have:=E.out;have:=Z.out;have:=aO.out;omega
    have aB:Below w.heap.size w W:=by rw[<-Z.out];exact aR.out
    exact⟨_,results_tmp rfl _ _ _,k,by omega,by rw[<-aN.out];exact HM.out,rfl,aB.trans (belowK_b (w:=w) (GH _) W D _ _ aF ao.out rfl rfl)⟩
 case stop=>
  rintro D c pre W _ _ h _;exact h.elim
theorem yg(g off cap:Nat)(s:List Nat)(w:World)(b:aJ w (.slice (some ⟨g,off,none⟩) 640 cap) s)(a:s.length=640):
 Calls Tryz.prog 149 #[.slice (some ⟨g,off,none⟩) 640 cap] w fun e w'=>∃t:Nat,t<256/\t∉Rg.rG s 10/\e=.returned (.int .u8 (t:Int))/\Below w.heap.size w w':=callsIn_wide.1 (A9 g off cap s w b a)
end Go.Proofs.YtbpodmallknhfaaGreat
namespace Go.Proofs.YtbpodmallknhfaaGreat
open Go.RowKit
theorem mf{w:World}(ty:TypeId)(x p:Nat)(l1:List Nat)(d:aJ w (.slice (some ⟨x,p,none⟩) l1.length l1.length) l1)(G:0<l1.length)(v n c2:Nat)(a:List Nat)(z:aJ w (.slice (some ⟨v,n,none⟩) a.length c2) a)(F:0<a.length)(hl:l1.length+a.length<=1000000):
 ∃m w',(Builtin.append_ #[57,57] ty #[.slice (some ⟨x,p,none⟩) l1.length l1.length,.slice (some ⟨v,n,none⟩) a.length c2]).run Tryz.prog w=.ok m w'/\Own w.heap.size w' m (l1++a)/\Below w.heap.size w w':=by
 obtain⟨i0,C,s,r,q⟩:=info_parts iT;have cells:∀{g o c:Nat}{l:List Nat},aJ w (.slice (some ⟨g,o,none⟩) l.length c) l->∀j u,(ai l)[j]?=some u->w.cell? ((⟨g,o,none⟩:Addr).add j)=some u:=fun{g o c l}h j u t=>by
  have f:j<l.length:=by
   rcases Hi j l.length with d|d
   ·exact d
   ·rw[He (by simpa[ai]using d)]at t;simp at t
  have i:(⟨g,o,none⟩:Addr).add j=⟨g,o+j,none⟩:=by unfold Addr.add;split<;>simp_all
  rw[i,h.at_ rfl j f,<-t];simp[ai,GS f]
 obtain⟨m,w',A,b,D⟩:=run_append_arg_grows (P:=Tryz.prog) (w:=w) 57 ty 5 i0 (.int .u8 0) 1 1 Tryz.underlying57 C s r q rfl (by decide) ⟨x,p,none⟩ l1.length l1.length (ai l1) (by simp[ai]) (cells d) ⟨v,n,none⟩ a.length c2 (ai a) (by simp[ai]) (cells z) (by omega) (by unfold maxLen;omega) (by omega);have E:ai l1++ai a=ai (l1++a):=by simp[ai]
 rw[E,<-GI]at b;refine⟨m,w',A,⟨b,fun y e=>?_,by rw[GI];omega⟩,(GF _ _).grown D (GH _) fun k B=>by cases B⟩;rcases List.mem_append.1 e with e|e
 ·exact d.small y e
 ·exact z.small y e
set_option maxHeartbeats 1600000 in
set_option maxRecDepth 20000 in
theorem wk(n t:Nat)(A:n<65536)(z:t<256)(w:World):
 Calls Tryz.prog 103 #[.int .i64 (n:Int),.int .u8 (t:Int)] w fun e w'=>∃u,e=.returned u/\Own w.heap.size w' u (Rg.tag n t)/\Below w.heap.size w w':=by
 have m:IntKind.u8.wrap (n:Int)=((n%256:Nat):Int):=by
  have e:IntKind.u8.wrap (n:Int)=(n:Int)%256:=by simp[IntKind.wrap,IntKind.bits,IntKind.signed]
  rw[e];omega
 have o:=Lib.run_convert_bytes_const (P:=Tryz.prog) w 57 5 #[.int .u8 112,.int .u8 117,.int .u8 116,.int .u8 32,.int .u8 98,.int .u8 97,.int .u8 99,.int .u8 107,.int .u8 32] 9 9 Tryz.underlying57 Tryz.underlying5;go_enter Tryz.func103,Tryz.ntmps103;obtain⟨W1,c⟩:∃W1,W1=w.alloc (.cells #[.int .u8 112,.int .u8 117,.int .u8 116,.int .u8 32,.int .u8 98,.int .u8 97,.int .u8 99,.int .u8 107,.int .u8 32] 5 (9,10)):=⟨_,rfl⟩
 obtain⟨W2,a⟩:∃W2,W2=W1.alloc (.cells #[.int .u8 (t:Int),.int .u8 ((n:Int)%256),.int .u8 ((n:Int)/256)] 5):=⟨_,rfl⟩
 have f:W1.heap.size=w.heap.size+1:=by rw[c];simp
 have b1:aJ W1 (.slice (some ⟨w.heap.size,0,none⟩) Rg.mark.length Rg.mark.length) Rg.mark:=by
  rw[c];exact eN w Rg.mark 9 (by decide) 5 (9,10) (by decide) (by decide)
 have b2:aJ W2 (.slice (some ⟨W1.heap.size,0,none⟩) [t,n%256,n/256%256].length 3) [t,n%256,n/256%256]:=by
  have q:((n:Int)%256)=((n%256:Nat):Int):=by omega
  have p:((n:Int)/256)=((n/256%256:Nat):Int):=by omega
  rw[a,q,p];exact eN W1 [t,n%256,n/256%256] 3 (by simp) 5 (0,0) (by
   intro x l;simp only[IX,IY,or_false]at l;omega) (by simp)
 have h:aJ W2 (.slice (some ⟨w.heap.size,0,none⟩) Rg.mark.length Rg.mark.length) Rg.mark:=by
  rw[a];exact b1.below ((GF _ W1).alloc (GH _) _)
 obtain⟨k,w',b,j,i⟩:=mf 57 _ _ _ h (by decide) _ _ _ _ b2 (by simp) (by simp[Rg.mark]);have g:Below w.heap.size w w':=by
  have:Below w.heap.size w W2:=by
   rw[a,c];exact((GF _ w).alloc (GH _) _).alloc (by simp) _
  exact this.trans (i.mono this.size)
 have d:Own w.heap.size w' k (Rg.tag n t):=j.from (by rw[a];simp;omega);obtain⟨B,C,rfl,-,-⟩:=eJ d (by simp[Rg.tag,Rg.mark]);rw[f]at b;have s:=GD b;have y:=GD g;have v:=GD d;have r:Hid (W2=(w.alloc (.cells #[.int .u8 112,.int .u8 117,.int .u8 116,.int .u8 32,.int .u8 98,.int .u8 97,.int .u8 99,.int .u8 107,.int .u8 32] 5 (9,10))).alloc (.cells #[.int .u8 (t:Int),.int .u8 ((n:Int)%256),.int .u8 ((n:Int)/256)] 5)):=by show _=_;rw[a,c]
 clear b g d j i b1 h b2 f c a;go_upto_region 1 with(fail)
 iterate 28 go_step
 rw[<-r.out];refine Lib.wpList_append_run _ rfl (.tmp 6) (.tmp 13) _ _ rfl _ _ rfl rfl _ _ s.out ?_;go_wp2_with fail
 go_ret;exact⟨_,rfl,v.out,y.out⟩
end Go.Proofs.YtbpodmallknhfaaGreat
