/- Parts of a proof. Conditions: as each row says. -/
import Derived.Test.YtbpodmallknhfaaGreatPl09
import Derived.Test.YtbpodmallknhfaaGreatPl31
import Derived.Test.YtbpodmallknhfaaGreatPl10
import Derived.Test.YtbpodmallknhfaaGreatPl14
import Derived.Test.YtbpodmallknhfaaGreatPl24
import Derived.Test.YtbpodmallknhfaaGreatPl30
import Derived.Test.YtbpodmallknhfaaGreatPl20
import Derived.StillTailTactics
namespace Go.Proofs.YtbpodmallknhfaaGreat
open Go.RowKit
namespace Wl
def iz(fl i:Nat):Nat:=max (i*52) fl-i*52
def xr(fl i:Nat):Nat:=i*52+iz fl i-fl
def fG(fl n i:Nat):Nat:=min (n-xr fl i) (52-iz fl i)
def nw(fl ep a:Nat)(wl:List Nat)(x:Hf)(i:Nat):Hf:=mw x wl (iz fl i) (xr fl i) (fG fl wl.length i) (i/a) ep
structure Sn(fl ep c:Nat)(wl a:List Nat)(h i:Nat)(b:List Nat):Prop where
 sec:Dk.gi b
 new:∀t,h<=t->t<i->eA (hf b (t%2))=nw fl ep c wl (eA (hf a (t%2))) t
 old:∀k,k<2->(∀t,h<=t->t<i->t%2≠k)->hf b k=hf a k
theorem zP{fl ep b h:Nat}{wl a:List Nat}(hs:Dk.gi a):Sn fl ep b wl a h h a:=⟨hs,fun t d c=>absurd c (by omega),fun _ _ _=>rfl⟩
def ins(b l:List Nat)(j:Nat):List Nat:=b.take (64*j)++l++b.drop (64*j+64)
theorem AY{b l:List Nat}(c:b.length=128)(hl:l.length=64){j k:Nat}(e:j<2)(d:k<2):hf (ins b l j) k=if k=j then l else hf b k:=by
 obtain rfl|rfl:j=0\/j=1:=by omega
 ·obtain rfl|rfl:k=0\/k=1:=by omega
  ·rw[GU rfl];unfold hf ins;rw[Nat.mul_zero,IQ,Hg,I8,Iu hl]
  ·rw[GQ (by decide)];unfold hf ins;rw[Nat.mul_zero,IQ,Hg,Iz,IF hl,H8]
 ·have a:(b.take 64).length=64:=by rw[Hj,c];rfl
  obtain rfl|rfl:k=0\/k=1:=by omega
  ·rw[GQ (by decide)];unfold hf ins;rw[Nat.mul_zero,I8,I8,G3,Iz,Iu a]
  ·rw[GU rfl];unfold hf ins;rw[Iz,G3,IF a,Iu hl]
theorem Co{b l:List Nat}(c:Dk.gi b)(hl:l.length=64)(hs:∀x∈l,x<256){j:Nat}(d:j<2):Dk.gi (ins b l j):=by
 refine⟨?_,fun x a=>?_⟩
 ·unfold ins;rw[GI,GI,Hj,G5,c.1,hl];omega
 ·unfold ins at a;simp only[List.mem_append]at a;rcases a with(a|a)|a
  ·exact c.2 x (Hl a)
  ·exact hs x a
  ·exact c.2 x (Ht a)
structure vV(fl ep a:Nat)(wl:List Nat)(i:Nat):Prop where
 old:iz fl i<52
 sw:xr fl i<wl.length
 round:i/a<4294967296
 ep:ep<4294967296
theorem vV.length{fl ep a i:Nat}{wl:List Nat}(h:vV fl ep a wl i){x:Hf}(b:x.log.length=52):(nw fl ep a wl x i).log.length=52:=by
 have c:=h.old;refine lR b ?_ ?_
 ·unfold fG;omega
 ·unfold fG;omega
theorem vV.of{fl ep a i:Nat}{wl:List Nat}(h:vV fl ep a wl i)(x:Hf):eA (tq (nw fl ep a wl x i))=nw fl ep a wl x i:=by
 have b:=h.old;refine A1 h.round h.ep ?_;show iz fl i+fG fl wl.length i<_;unfold fG;omega
theorem wI{b:List Nat}(h:∀x∈b,x<256):∀x∈(eA b).log,x<256:=fun x a=>h x (Ht a)
theorem CS{b:List Nat}(h:∀x∈b,x<256)(k:Nat):∀x∈hf b k,x<256:=fun x a=>h x (Ht (Hl a))
theorem oL{b:List Nat}(h:b.length=128){k:Nat}(a:k<2):(eA (hf b k)).log.length=52:=by
 show(List.drop 12 _).length=52;rw[G5,qy h a]
theorem DR{x:Hf}(h:∀b∈x.log,b<256):∀b∈tq x,b<256:=Lr.cM (Lr.cM (Lr.cM (aH.cZ _ _) (aH.cZ _ _)) (aH.cZ _ _)) h
theorem Sn.next{fl ep d h i:Nat}{wl c b:List Nat}(H:Sn fl ep d wl c h i b)(l:Dk.gi c)(hw:∀x∈wl,x<256)(p:h<=i)(g:∀t,h<=t->t<i->t%2≠i%2)(f:vV fl ep d wl i):
 hf b (i%2)=hf c (i%2)/\Sn fl ep d wl c h (i+1) (ins b (tq (nw fl ep d wl (eA (hf c (i%2))) i)) (i%2)):=by
 have j:i%2<2:=by omega
 have hlen:=f.length (oL l.1 j);have a:(tq (nw fl ep d wl (eA (hf c (i%2))) i)).length=64:=by rw[oN,hlen]
 refine⟨H.old _ j g,Co H.sec a (DR (tB (wI (CS l.2 _)) hw)) j,fun t m q=>?_,fun k o n=>?_⟩
 ·rw[AY H.sec.1 a j (by omega)];by_cases e:t=i
  ·subst e;rw[GU rfl,f.of]
  ·rw[GQ (g t m (by omega))];exact H.new t m (by omega)
 ·rw[AY H.sec.1 a j o,GQ (fun e=>n i p (by omega) e.symm)];exact H.old k o fun t m q=>n t m (by omega)
end Wl
theorem yu{base w g cap j}{b l:List Nat}{v:Value}(h:jX base w (.slice (some ⟨g,0,none⟩) 128 cap) b)(z:b.length=128)(O:j<2)(F:aJ w v l)(hl:l.length=64):
 ∃w',(∀ty,(Builtin.copy_ #[57,57] ty #[.slice (some ⟨g,64*j,none⟩) 64 (cap-64*j),v]).run Tryz.prog w=.ok (.int .i64 64) w')/\jX base w' (.slice (some ⟨g,0,none⟩) 128 cap) (Wl.ins b l j)/\Touch (·=g) w w':=by
 obtain⟨R,I,E,J,hlt,K,s,cur,T,n,hs,L⟩:=h.row (by omega);simp only[Hc,GO,Im,Jj]at E;obtain⟨rfl,-,rfl⟩:=E;rw[z]at hs L;obtain⟨p,cs,A,-,-,hp⟩:=F.form;subst A;obtain⟨gs,off,rfl,C⟩:=hp (by omega);have r:=fun ty=>run_copy_row Tryz.prog w 57 57 ty 5 g (64*j) 64 (cap-64*j) ⟨gs,off,none⟩ l.length cs cur T (ai l) Tryz.underlying57 kT n (by rw[aE,hl];rfl) (fun i u hu=>by
  have t:(⟨gs,off,none⟩:Addr).add i=⟨gs,off+i,none⟩:=by unfold Addr.add;split<;>simp_all
  have m:i<l.length:=by
   rcases Hi i l.length with n|n
   ·exact n
   ·rw[He (by rw[aE];omega)]at hu;cases hu
  rw[t,C i m,<-hu];simp[ai,GG,m]) (by rw[aE,hl];omega) (fun u hu=>by
  obtain⟨y,-,rfl⟩:=List.mem_map.1 hu;rfl)
 have f:=setRow_heap w g cur (cur.toList.take (64*j)++ai l++cur.toList.drop (64*j+(ai l).length)).toArray T (0,0) n;have a:(Wl.ins b l j).length=128:=by
  unfold Wl.ins;rw[GI,GI,Hj,G5,z,hl];omega
 have q:∀x∈Wl.ins b l j,x<256:=by
  intro x d;unfold Wl.ins at d;simp only[List.mem_append]at d;rcases d with(d|d)|d
  ·exact h.aP.small x (Hl d)
  ·exact F.small x d
  ·exact h.aP.small x (Ht d)
 have c:∀i,i<128->cur[i]?=some (.int .u8 (b.getD i 0:Nat)):=by
  intro i m;obtain⟨M,c3,o,-,-,B⟩:=h.aP.form;simp only[Hc]at o;obtain⟨rfl,-,-⟩:=o;obtain⟨Q,N,he4,D⟩:=B (by omega);simp only[GO,Im,Jj]at he4;obtain⟨rfl,rfl⟩:=he4;have:=D i (by omega);rw[H8,Iq w g i cur T (0,0) n]at this;exact this
 have k:∀i,i<128->(cur.toList.take (64*j)++ai l++cur.toList.drop (64*j+(ai l).length)).toArray[i]?=some (.int .u8 ((Wl.ins b l j).getD i 0:Nat)):=by
  intro i m;have H:(cur.toList.take (64*j)).length=64*j:=by rw[Hj];simp;omega
  rw[List.getElem?_toArray,aE,hl];unfold Wl.ins;by_cases G:i<64*j
  ·rw[G3,Ig (by omega),Ij,GU G,G3,Wl.fQ,Hj,GU (by omega),Wl.getD_take G];rw[It];exact c i m
  ·by_cases P:i<64*j+64
   ·rw[G3,Hy (by omega),H,Ig (by rw[aE];omega),G3,Wl.fQ,Hj,z,GQ (by omega),Wl.fQ,GU (by omega)];rw[show min (64*j) 128=64*j by omega];simp[ai,GG,show i-64*j<l.length by omega]
   ·rw[G3,Hy (by omega),H,Hy (by rw[aE];omega),aE,List.getElem?_drop,G3,Wl.fQ,Hj,z,GQ (by omega),Wl.fQ,GQ (by omega),Wl.mr];rw[show min (64*j) 128=64*j by omega,hl,show 64*j+64+(i-64*j-64)=i by omega,It];exact c i m
 refine⟨_,fun ty=>by rw[r ty,aE,hl];rfl,⟨⟨⟨some ⟨g,0,none⟩,cap,by rw[a],⟨by rw[a];omega,s⟩,(fun e=>by cases e),fun _=>⟨g,0,rfl,fun i m=>?_⟩⟩,q,by rw[a];decide⟩,fun _=>⟨g,cap,by rw[a],J,by rw[size_setRow];exact hlt,by rw[a];omega,s,_,T,f,?_,fun i m=>?_⟩⟩,gr _ _⟩
 ·rw[H8,Iq _ g i _ T (0,0) f];exact k i (by omega)
 ·rw[a];simp only[Ir,GI,Hj,G5,aE,hl,Array.length_toList];omega
 ·exact⟨_,by
   rw[GG,GS (by omega)];exact q _ (Ie _),k i (by omega)⟩
end Go.Proofs.YtbpodmallknhfaaGreat
namespace Go.Proofs.YtbpodmallknhfaaGreat
open Go.RowKit
set_option maxHeartbeats 6400000 in
set_option maxRecDepth 20000 in
theorem xi{w:World}{L B a c Z Y:Nat}{k:Wl.Kn}{pl:Value}{gw ow cw:Nat}{wl:List Nat}{d:Dk.ak}(h:aR w L k B a c pl (.slice (some ⟨gw,ow,none⟩) wl.length cw) false)(hP:bc w B Z Y d)(hB:aJ w (.slice (some ⟨gw,ow,none⟩) wl.length cw) wl)
 (ho:d.off=false) (D:1<=c) (P:c<=8192) (aA:a+c+2<=Dk.size d) (g last:Nat) (ba:g<=last) (p:last<=1000000000000) (ao:∀i,g<=i->i<=last->Wl.vV k.ag k.an (2*c) wl i) (aF:¬DS B Z Y L) (az:k.ag<=1000000000000000):
 Calls Tryz.prog 147 #[.pointer (some ⟨L,0,none⟩),.int .u64 (g:Int),.int .u64 (last:Int)] w fun e w'=>∃b',Wl.Sn k.ag k.an (2*c) wl (Wl.kH d (a+2+g%(2*c)/2)) g (min last (g/2*2+1)+1) b'/\
  e=.returned (.int .i64 ((Dk.write d ((a+2+g%(2*c)/2:Nat):Int) b').2:Nat))/\bc w' B Z Y (Dk.write d ((a+2+g%(2*c)/2:Nat):Int) b').1/\aR w' L k B a c pl (.slice (some ⟨gw,ow,none⟩) wl.length cw) (decide ((Dk.write d ((a+2+g%(2*c)/2:Nat):Int) b').2≠0))/\Touch (jr B Z Y L) w w':=by
 have aT:=GD h;have hlt:=Wl.kO (n:=c) (h:=g) D;have a7:=hP.own.size;have o:=jd h g D P (show a<=65536 by omega);obtain⟨σ,aa⟩:∃s,s=a+2+g%(2*c)/2:=⟨_,rfl⟩
 rw[<-aa]at o⊢;have aM:Hid (σ<Dk.size d):=by show _<_;omega
 have J:=GD o;have aO:=GD hP;have aY:=GD hB;have bn:=GD ho;have aQ:=GD ao;have aU:=GD aF;have bA:=GD D;have bz:=GD P;have bx:=GD az;have aV:Hid (last<=1000000000000):=p;have m:=GD (Wl.rM hP.own.ok aM.out);obtain⟨top,H⟩:∃t,t=min last (g/2*2+1):=⟨_,rfl⟩
 have f:Hid (g<=top/\top<=last/\top<=g/2*2+1):=by show _/\_/\_;omega
 have a8:IntKind.u64.wrap ((g:Int)/2)=((g/2:Nat):Int):=by rw[Hv _ (by omega)];omega
 obtain⟨g2,ay⟩:∃n,n=g/2:=⟨_,rfl⟩
 rw[<-ay]at a8;obtain⟨g4,bf⟩:∃n,n=g2*2:=⟨_,rfl⟩
 have bI:IntKind.u64.wrap ((g2:Int)*2)=(g4:Int):=by rw[Hv _ (by omega)];omega
 obtain⟨g5,bd⟩:∃n,n=g4+1:=⟨_,rfl⟩
 have bH:IntKind.u64.wrap ((g4:Int)+1)=(g5:Int):=by rw[Hv _ (by omega)];omega
 have bG:min (last:Int) (g5:Int)=(top:Int):=by omega
 rw[<-H];clear h hP hB ho D P aA ao aF az hlt a7 o aa ba p H ay bf bd;go_enter Tryz.func147,Tryz.ntmps147;go_wp2_with fail
 refine J.out.mono ?_;rintro e w1⟨rfl,q,rfl⟩;have E:=below_drewN w.heap.size w q;have W:=GD (aT.out.below E);have U:=GD (aO.out.below E);have X:=GD (aY.out.below E);have bk:Hid (Touch (jr B Z Y L) w (w.drewN q)):=(Touch.refl _ _).drewN q;clear J E;generalize w.drewN q=W1 at*
 have c4:=W.out.cell 4 (v:=.pointer (some ⟨B,0,none⟩)) rfl;go_wp2_with fail
 refine(nA U.out bn.out aM.out).mono ?_;rintro e w2⟨u,rfl,hM,aB⟩;obtain⟨gb,cap,hu,aw,av,r,bg⟩:=hM.some (by rw[m.out.1];decide);rw[m.out.1]at hu r;subst hu;have HM:=GD hM;have bC:=GD aB;have aW:Hid (W1.heap.size<=gb):=aw;clear hM aB aw av c4;go_wp2_with fail
 go_loopw [10] (fun i wr=>∃(t:Nat)(bb:List Nat),i=.int .u64 (t:Int)/\g<=t/\t<=top+1/\jX W1.heap.size wr (.slice (some ⟨gb,0,none⟩) 128 cap) bb/\Wl.Sn k.ag k.an (2*c) wl (Wl.kH d σ) g t bb/\Below W1.heap.size W1 wr) (fun i _=>(top+1)-(intOf i).toNat)
 case atStart=>exact⟨g,_,rfl,GH _,by have:=f.out;omega,HM.out,Wl.zP m.out,bC.out⟩
 case round=>
  obtain⟨t,bb,rfl,ai,ah,hm,al,hb⟩:=hrel;have V:=GD hm;have F:=GD al;have HB:=GD hb;have l:Hid (g<=t/\t<=top+1):=⟨ai,ah⟩
  clear hm al hb ai ah;by_cases hlt:t<=top
  ·have C:(t:Int)<=(top:Int):=by omega
   have z:=GD hlt;obtain⟨au,ar⟩:=F.out.next m.out X.out.small l.out.1 (fun s h1 h2=>by have:=f.out;omega) (aQ.out t l.out.1 (by have:=f.out;omega));have bK:(t:Int)%2=((t%2:Nat):Int):=by omega
   have A:t%2<2:=by omega
   have bw:=GD au;have bu:=GD ar;clear au ar hlt;generalize t%2=j at*
   have bJ:IntKind.u64.wrap ((j:Int)*64)=((64*j:Nat):Int):=by rw[Hv _ (by omega)];omega
   have bL:¬cap=64*j:=by omega
   have bE:((64*j:Nat):Int)<=128:=by omega
   have bD:(64:Int)<=128-((64*j:Nat):Int):=by omega
   have HJ:=GD A;have Q:=DP V.out.aP F.out.sec.1 r A;rw[bw.out]at Q;have M:=GD (vw _ _ wr Q (Wl.qy m.out.1 A));have aK:=GD (Wl.oL m.out.1 A);have aI:=GD (Wl.wI (Wl.CS m.out.2 j));clear Q;generalize a6:Wl.eA (Wl.hf (Wl.kH d σ) j)=x at*
   have HN:=GD (aQ.out t l.out.1 (by have:=f.out;have:=z.out;omega));have bF:IntKind.u64.wrap ((t:Int)+1)=((t+1:Nat):Int):=by have:=f.out;have:=aV.out;have:=z.out;rw[Hv _ (by omega)];omega
   clear a6;go_wp2_with fail
   refine M.out.mono ?_;rintro e w3⟨rfl,T⟩;have G:=GD (HB.out.trans (T.mono HB.out.size));have bs:=GD (V.out.below T);clear T M;go_wp2_with fail
   have aX:Hid (Calls Tryz.prog 175 #[.pointer (some ⟨L,0,none⟩),.int .u64 (t:Int),CY x] w3 fun e w'=>e=.returned (CY (Wl.nw k.ag k.an (2*c) wl x t))/\Below w3.heap.size w3 w'):=
    qQ (W.out.below G.out) (X.out.below G.out) bA.out bz.out t HN.out.round x aK.out aI.out (by have:=f.out;have:=aV.out;have:=z.out;omega) bx.out rfl HN.out.old rfl HN.out.sw rfl
   refine aX.out.mono ?_;clear aX;rintro e w4⟨rfl,S⟩;have a1:=GD (G.out.trans (S.mono G.out.size));have br:=GD (bs.out.below S);have ad:(Wl.nw k.ag k.an (2*c) wl x t).log.length=52:=HN.out.length aK.out;have ab:∀b∈(Wl.nw k.ag k.an (2*c) wl x t).log,b<256:=Wl.tB aI.out X.out.small;generalize a2:Wl.nw k.ag k.an (2*c) wl x t=y at*
   have aH:=GD ad;have bh:=GD ab;clear ad ab S a2;go_wp2_with fail
   refine(tp y w4 aH.out bh.out).mono ?_;rintro e w5⟨u5,rfl,aD,R⟩;have aZ:=GD (a1.out.trans (R.mono a1.out.size));have bp:=GD (br.out.below R);have aq:(Wl.tq y).length=64:=by rw[Wl.oN,aH.out]
   obtain⟨w6,I,aE,af⟩:=yu bp.out F.out.sec.1 HJ.out aD.aP aq;have I:=I 3;have bo:=GD aE;have bB:=GD (aZ.out.trans (af.below (base:=W1.heap.size) (fun i C=>by rw[C];exact aW.out) aZ.out.size));clear R aD aq aE af;go_wp2_with fail
   go_roundw
   case rel=>exact⟨t+1,_,by go_num,by have:=l.out;omega,by have:=z.out;omega,bo.out,bu.out,bB.out⟩
   case measure=>simp[intOf];have:=z.out;omega
  ·obtain rfl:t=top+1:=by have:=l.out;omega
   have C:¬((top+1:Nat):Int)<=(top:Int):=by omega
   have K:=GD (W.out.below HB.out);have aN:=GD (U.out.below HB.out);have c4:=K.out.cell 4 (v:=.pointer (some ⟨B,0,none⟩)) rfl;have ae:=gF aN.out (σ:Int) _ bb V.out.aP (fun _ g' e hd=>by
    simp only[Value.ownBlock,GO]at e;subst e;have h1:=U.out.lt _ hd;have h2:=aW.out;omega)
   have aL:=GD ae;clear ae hlt;go_wp2_with fail
   refine aL.out.mono ?_;rintro e w7⟨rfl,aC,O⟩;have bm:=GD aC;have aS:=GD (K.out.aj O aU.out);have bj:=GD ((bk.out.trans (Touch.ax HB.out)).trans (O.mono fun i _ C=>GJ C));clear aC O c4 aL;go_wp2_with fail
   refine(gN aS.out _).mono ?_;rintro e w8⟨rfl,aG,N⟩;have HE:=GD (bj.out.trans (N.mono fun i _ C=>GL C));have bt:=GD aG;have bl:=GD (bm.out.bq N (fun i C e=>aU.out (e▸C)));clear aG N;go_wp2_with fail
   go_ret;exact⟨bb,F.out,rfl,bl.out,bt.out,HE.out⟩
structure Fl(P0 P1:World->Prop)(i:Nat)(D:Nat->Bool)(w:World):Prop where
 s0:D i=false->P0 w
 s1:D i=true->P1 w
section
variable{P0 P1:World->Prop}{i:Nat}{D:Nat->Bool}{w w':World}
theorem Fl.first(h:P0 w):Fl P0 P1 i (fun _=>false) w:=⟨fun _=>h,fun h=>Bool.noConfusion h⟩
theorem Fl.skip(h:Fl P0 P1 i D w)(k:Nat)(a:i≠k):Fl P0 P1 i (Ord.bB D k) w:=
 ⟨fun e=>h.s0 (by rw[<-e];exact(GQ a).symm),fun e=>h.s1 (by rw[<-e];exact(GQ a).symm)⟩
theorem Fl.bq(_:Fl P0 P1 i D w)(k:Nat)(a:i≠k)(b:D i=true)(hp:P1 w'):Fl P0 P1 i (Ord.bB D k) w':=
 ⟨(fun e=>by rw[show Ord.bB D k i=D i from GQ a,b]at e;cases e),fun _=>hp⟩
theorem Fl.flip(_:Fl P0 P1 i D w)(hp:P1 w'):Fl P0 P1 i (Ord.bB D i) w':=
 ⟨(fun e=>by rw[show Ord.bB D i i=true from GU rfl]at e;cases e),fun _=>hp⟩
theorem Fl.any{R:World->Prop}(h:Fl P0 P1 i D w)(f0:∀w,P0 w->R w)(f1:∀w,P1 w->R w):R w:=by
 cases hd:D i with
 |false=>exact f0 w (h.s0 hd)
 |true=>exact f1 w (h.s1 hd)
end
namespace Wl
theorem pj{n:Nat}{d:Dk.ak}(h:Calm n d)(ok:Dk.Ok d){i:Nat}(e:i<n){b:List Nat}(a:Dk.gi b):Dk.write d (i:Int) b=(Dk.put d i b,0)/\Calm n (Dk.put d i b)/\Dk.Ok (Dk.put d i b):=by
 have hu:Dk.used d<d.bD\/d.seen.getD i false=true:=by
  cases hs:d.seen.getD i false with
  |true=>exact GL rfl
  |false=>
   refine GJ ?_;have c:=h.sz;have hl:i<d.seen.length:=by rw[ok.s];omega
   have g:=Dk.fH hl hs;have f:(d.seen.set i true).count true<=(d.seen.set i true).length:=List.count_le_length;rw[G4,ok.s]at f;have:=h.bD;unfold Dk.used;omega
 exact⟨Dk.uf h.off h.bR (by rw[h.sz];exact e) a.1 hu,⟨h.off,h.bR,h.sz,h.bD⟩,Dk.eU ok i a⟩
def kC(d:Dk.ak)(a:Nat)(b:List Nat):Nat->Dk.ak
 |0=>d
 |1=>Dk.put d a b
 |_=>Dk.put (Dk.put d a b) (a+1) b
theorem ur{n K:Nat}{d:Dk.ak}{a:Nat}{b:List Nat}(f:K<2)(h:Calm n (kC d a b K))(ok:Dk.Ok (kC d a b K))(e:a+1<n)(c:Dk.gi b):
 Dk.write (kC d a b K) ((a+K:Nat):Int) b=(kC d a b (K+1),0)/\Calm n (kC d a b (K+1))/\Dk.Ok (kC d a b (K+1)):=by
 obtain rfl|rfl:K=0\/K=1:=by omega
 ·exact pj h ok (by omega) c
 ·exact pj h ok (by omega) c
end Wl
def tW(L B a K e c b d:Nat)(i:Nat)(v:Value)(_:World):Prop:=
 match i with
 |0=>v=.pointer (some ⟨L,0,none⟩)
 |1=>v=.pointer (some ⟨L,0,none⟩)
 |2=>v=.pointer (some ⟨L,0,none⟩)
 |3=>v=.pointer (some ⟨L,4,none⟩)
 |4=>v=.pointer (some ⟨B,0,none⟩)
 |5=>v=.pointer (some ⟨L,0,none⟩)
 |6=>v=.pointer (some ⟨L,0,none⟩)
 |7=>v=.pointer (some ⟨L,5,none⟩)
 |8=>v=.int .i64 (a:Int)
 |9=>v=.int .i64 (K:Int)
 |10=>v=.int .i64 (e:Int)
 |11=>v=.slice (some ⟨c,0,none⟩) b d
 |12=>v=.int .i64 0
 |13=>v=.int .i64 0
 |14=>v=.int .i64 0
 |_=>True
def FX(B e b L a c:Nat)(k0:Wl.Kn)(pl f:Value)(w1:World)(d:Dk.ak)(w:World):Prop:=bc w B e b d/\aR w L k0 B a c pl f false/\Touch (jr B e b L) w1 w
set_option maxHeartbeats 6400000 in
set_option maxRecDepth 20000 in
theorem uh{w:World}{L B a c z y n:Nat}{k0:Wl.Kn}{pl x:Value}{d:Dk.ak}(h:aR w L k0 B a c pl x false)(J:bc w B z y d)(hC:Wl.Calm n d)(k:Wl.Kn)(aI:a+c+2<=n)(hc:c<=8192)(aQ:¬DS B z y L):
 Calls Tryz.prog 68 #[.pointer (some ⟨L,0,none⟩),Ga k] w fun e w'=>e=.returned (.int .i64 0)/\aR w' L k B a c pl x false/\bc w' B z y (Wl.told d a (Wl.head a c k))/\Touch (jr B z y L) w w':=by
 obtain⟨W,hW⟩:∃W,W=w.alloc (.cells (Eb k) 120):=⟨_,rfl⟩
 have F:Below w.heap.size w W:=by rw[hW];exact ae _ _
 have g:W.heap[w.heap.size]?=some (.cells (Eb k) 120 (0,0)):=by rw[hW];exact GM _ _
 obtain⟨Q,hQ⟩:∃Q,Q=w.heap.size:=⟨_,rfl⟩
 rw[<-hQ]at g;have hlt:=h.lt;have a6:=J.own.size;have hn:=hC.sz;have aY:=GD (h.below F);have bk:=GD (J.below F);have ad:Hid (L<w.heap.size):=hlt;have ai:=GD J.lt;have r:=GD g;have ao:=GD F;have HQ:=GD hQ;have HC:=GD hC;have bx:=GD J.own.ok;have HA:Hid (a+1<n/\a<=65536):=by show _/\_;omega
 have M:=GD (Wl.lM a c k);have s:=GD aQ;have q0:=ah g 0 (v:=.int .u64 (k.start:Int)) rfl;have q1:=ah g 1 (v:=.int .u64 (k.ag:Int)) rfl;have q2:=ah g 2 (v:=.int .u64 (k.dS:Int)) rfl;have q3:=ah g 3 (v:=.int .u32 (k.an:Int)) rfl;have p:=um aY.out k (by omega) hc;have t:=GD p;clear F g hlt a6 hn h J hC aI hc aQ p;go_enter Tryz.func68,Tryz.ntmps68;go_upto_region 1 with(fail)
 rw[<-hW,<-hQ];clear hW hQ;go_wp2_with fail
 refine t.out.mono ?_;rintro e w1⟨u,rfl,hO,q⟩;generalize aG:Wl.head a c k=P at*
 have bs:=GD aG;obtain⟨gu,cu,hu,aH,-⟩:=gU hO (by rw[M.out.1];decide);subst hu;have aX:=GD (aY.out.below q);have aW:=GD (bk.out.below q);have HO:=GD hO.aP;have bt:=GD (ao.out.trans (q.mono ao.out.size));have aZ:Hid (W.heap.size<=gu):=aH;have bj:=GD ((q.block Q (GN r.out)).trans r.out);have aS:=GD ao.out.size;have bw:Hid (Q<W.heap.size):=GN r.out;clear hO q aH t q0 q1 q2 q3 aG;go_wp2_with fail
 go_loopw [12] (fun i wr=>∃K:Nat,K<=2/\i=.int .i64 (K:Int)/\Wl.Calm n (Wl.kC d a P K)/\bc wr B z y (Wl.kC d a P K)/\aR wr L k0 B a c pl x false/\Touch (jr B z y L) w1 wr) (fun i _=>2-(intOf i).toNat)
 case atStart=>exact⟨0,G7 _,rfl,HC.out,aW.out,aX.out,.refl _ _⟩
 case round=>
  obtain⟨K,f,rfl,aJ,aD,aF,aB⟩:=hrel;have al:=GD aJ;have Z:=GD aD;have af:=GD aF;have I:=GD aB;clear aJ aD aF aB;have E:¬jr B z y L gu:=by
   rintro(h|h)
   ·have H:=ai.out gu h;have h2:=aZ.out;have h3:=aS.out;omega
   ·have H:=ad.out;have h2:=aZ.out;have h3:=aS.out;omega
  by_cases hlt:K<2
  ·have l:(K:Int)<2:=by omega
   have aE:=GW ((a:Int)+(K:Int)) (by have:=HA.out;omega);have bu:=GW ((K:Int)+1) (by omega);obtain⟨aK,aM⟩:∃n,n=a+K:=⟨_,rfl⟩
   have bo:Hid (IntKind.i64.wrap ((a:Int)+(K:Int))=(aK:Int)):=by show _=_;rw[aE];omega
   obtain⟨N,az,a2⟩:=Wl.ur hlt al.out Z.out.own.ok HA.out.1 M.out;rw[<-aM]at N;have aL:=I.out.aP HO.out (fun _ g' e=>by
    simp only[Value.ownBlock,GO]at e;subst e;exact E)
   have bz:=GD aL;have bb:=GD N;have ba:=GD az;have a1:=GD E;clear aL N az a2 f E aM aE;go_upto_region 5 with(fail)
   refine Ord.walk (tW L B a K aK gu P.length cu) (fun D _ w'=>Fl (FX B z y L a c k0 pl x w1 (Wl.kC d a P K)) (FX B z y L a c k0 pl x w1 (Wl.kC d a P (K+1))) 12 D w') (fun _ _=>True)
    (by kernel_rfl) (by kernel_rfl) ?fr ?hfr (fun _ _ _ _ _ h=>h) (fun xs=>Fl.first ⟨Z.out.below ((GF _ _).ij),af.out.below ((GF _ _).ij),I.out.drew⟩) ?he ?hend
   case hfr=>
    intro xs;simp only[Ord.fill,Act.put,GP,GX,GV];rfl
   case he=>
    iterate 15 (refine Ord.aa (fun D xs w2 hD hC J hR b K' f=>?_) ?_;rotate_left)
    rotate_left
    ·clear b;go_simp;exact f _ _ ⟨_,rfl,trivial,hR.skip 0 (by decide),rfl⟩
    ·clear b;go_simp;exact f _ _ ⟨_,rfl,trivial,hR.skip 1 (by decide),rfl⟩
    ·have q1:=Ord.ab _ b 1 (by decide);simp only[tW]at q1;simp only[q1]at f;clear b;go_simp;exact f _ _ ⟨_,rfl,trivial,hR.skip 2 (by decide),rfl⟩
    ·have q2:=Ord.ab _ b 2 (by decide);simp only[tW]at q2;simp only[q2]at f;clear b;go_simp;exact f _ _ ⟨_,rfl,trivial,hR.skip 3 (by decide),rfl⟩
    ·have q3:=Ord.ab _ b 3 (by decide);simp only[tW]at q3;simp only[q3]at f;clear b;have cc:=hR.any (R:=fun w=>w.cell? ⟨L,4,none⟩=some (.pointer (some ⟨B,0,none⟩))) (fun w h=>h.2.1.cell 4 rfl) (fun w h=>h.2.1.cell 4 rfl);go_simp;exact f _ _ ⟨_,rfl,trivial,hR.skip 4 (by decide),rfl⟩
    ·clear b;go_simp;exact f _ _ ⟨_,rfl,trivial,hR.skip 5 (by decide),rfl⟩
    ·have q5:=Ord.ab _ b 5 (by decide);simp only[tW]at q5;simp only[q5]at f;clear b;go_simp;exact f _ _ ⟨_,rfl,trivial,hR.skip 6 (by decide),rfl⟩
    ·have q6:=Ord.ab _ b 6 (by decide);simp only[tW]at q6;simp only[q6]at f;clear b;go_simp;exact f _ _ ⟨_,rfl,trivial,hR.skip 7 (by decide),rfl⟩
    ·have q7:=Ord.ab _ b 7 (by decide);simp only[tW]at q7;simp only[q7]at f;clear b;have cc:=hR.any (R:=fun w=>w.cell? ⟨L,5,none⟩=some (.int .i64 (a:Int))) (fun w h=>h.2.1.cell 5 rfl) (fun w h=>h.2.1.cell 5 rfl);go_simp;exact f _ _ ⟨_,rfl,trivial,hR.skip 8 (by decide),rfl⟩
    ·clear b;go_simp;exact f _ _ ⟨_,rfl,trivial,hR.skip 9 (by decide),rfl⟩
    ·have q8:=Ord.ab _ b 8 (by decide);simp only[tW]at q8;have q9:=Ord.ab _ b 9 (by decide);simp only[tW]at q9;simp only[q8,q9]at f;clear b;go_simp;rw[bo.out];exact f _ _ ⟨_,rfl,trivial,hR.skip 10 (by decide),rfl⟩
    ·clear b;go_simp;exact f _ _ ⟨_,rfl,trivial,hR.skip 11 (by decide),rfl⟩
    ·have q4:=Ord.ab _ b 4 (by decide);simp only[tW]at q4;have av:=Ord.ab _ b 10 (by decide);simp only[tW]at av;have au:=Ord.ab _ b 11 (by decide);simp only[tW]at au;simp only[q4,av,au]at f;clear b;have h0:=hR.s0 hD;have aw:=gF h0.1 (aK:Int) (.slice (some ⟨gu,0,none⟩) P.length cu) P (h0.2.2.aP HO.out (fun _ g' e=>by
      simp only[Value.ownBlock,GO]at e;subst e;exact a1.out)) (fun _ g' e hd=>by
      simp only[Value.ownBlock,GO]at e;subst e;exact a1.out (GJ hd))
     rw[bb.out]at aw;go_simp;refine aw.mono ?_;rintro e w'⟨rfl,a7,o⟩;exact f _ _ ⟨_,rfl,trivial,hR.flip ⟨a7,h0.2.1.aj o s.out,h0.2.2.trans (o.mono fun i _ l=>GJ l)⟩,rfl⟩
    ·have q0:=Ord.ab _ b 0 (by decide);simp only[tW]at q0;have ar:=Ord.ab _ b 12 (by decide);simp only[tW]at ar;simp only[q0,ar]at f;clear b;have H:=hR.s1 (J {on:=12,ground:=.data} (by simp) rfl);go_simp;refine(ma H.2.1).mono ?_;rintro e w'⟨rfl,a8,o⟩;exact f _ _ ⟨_,rfl,trivial,hR.bq 13 (by decide) (J {on:=12,ground:=.data} (by simp) rfl) ⟨H.1.bq o (fun i l e=>s.out (e▸l)),a8,H.2.2.trans (o.mono fun i _ l=>GL l)⟩,rfl⟩
    ·have aq:=Ord.ab _ b 13 (by decide);simp only[tW]at aq;simp only[aq]at f;clear b;go_simp;exact f _ _ ⟨_,rfl,trivial,hR.skip 14 (by decide),rfl⟩
    exact Ord.ay
   case hend=>
    intro D xs w9 hR m;have h9:=hR.s1 (m 12 (by decide)).1;have e0:=(m 0 (by decide)).2;have e1:=(m 1 (by decide)).2;have e2:=(m 2 (by decide)).2;have e3:=(m 3 (by decide)).2;have e4:=(m 4 (by decide)).2;have e5:=(m 5 (by decide)).2;have e6:=(m 6 (by decide)).2;have e7:=(m 7 (by decide)).2;have e8:=(m 8 (by decide)).2;have e9:=(m 9 (by decide)).2;have Y:=(m 10 (by decide)).2;have X:=(m 11 (by decide)).2;have V:=(m 12 (by decide)).2;have U:=(m 13 (by decide)).2;have T:=(m 14 (by decide)).2;simp only[tW]at e0 e1 e2 e3 e4 e5 e6 e7 e8 e9 Y X V U T;rw[e0,e1,e2,e3,e4,e5,e6,e7,e8,e9,Y,X,V,U,T];clear m hR e0 e1 e2 e3 e4 e5 e6 e7 e8 e9 Y X V U T;have bl:=GD h9.1;have bp:=GD h9.2.1;have bd:=GD h9.2.2;clear h9;go_wp2_with fail
    go_roundw
    case rel=>exact⟨K+1,by omega,by go_num,ba.out,bl.out,bp.out,bd.out⟩
    case measure=>simp[intOf];omega
  ·obtain rfl:K=2:=by omega
   have l:¬((2:Nat):Int)<2:=by decide
   have c4:=af.out.cell 4 (v:=.pointer (some ⟨B,0,none⟩)) rfl;have O:=jE Z.out;rw[Dk.xq al.out.off al.out.bR]at O;have aU:=GD O;have bh:=GD (I.out.row bj.out (by
    rintro(h|h)
    ·have H:=ai.out _ h;have h2:=HQ.out;omega
    ·have H:=ad.out;have h2:=HQ.out;omega))
   clear O hlt E;go_wp2_with fail
   refine aU.out.mono ?_;rintro e w2⟨rfl,aO,C⟩;have bn:=GD aO;have br:=GD (af.out.aj C s.out);have bg:=GD (I.out.trans (C.mono fun i _ l=>GJ l));have aV:=GD (C.row bh.out (fun h=>by have H:=ai.out _ h;have h2:=HQ.out;omega));clear aO C aU c4;go_wp2_with fail
   refine(ma br.out).mono ?_;rintro e w3⟨rfl,G,A⟩;have bm:=GD (bn.out.bq A (fun i l e=>s.out (e▸l)));have bf:=GD (bg.out.trans (A.mono fun i _ l=>GL l));have j:=A.row aV.out (fun h=>by have H:=ad.out;have h2:=HQ.out;omega);have q0:=ah j 0 (v:=.int .u64 (k.start:Int)) rfl;have q1:=ah j 1 (v:=.int .u64 (k.ag:Int)) rfl;have q2:=ah j 2 (v:=.int .u64 (k.dS:Int)) rfl;have q3:=ah j 3 (v:=.int .u32 (k.an:Int)) rfl;have f0:=aC G 0;have s0:aR (w3.setCell ⟨L,0,none⟩ (.int .u64 (k.start:Int))) L {k0 with start:=k.start} B a c pl x false:=aN (i:=0) G _;have f1:=aC s0 1;have s1:aR ((w3.setCell ⟨L,0,none⟩ (.int .u64 (k.start:Int))).setCell ⟨L,1,none⟩ (.int .u64 (k.ag:Int))) L {k0 with start:=k.start,ag:=k.ag} B a c pl x false:=aN (i:=1) s0 _;have f2:=aC s1 2;have s2:aR (((w3.setCell ⟨L,0,none⟩ (.int .u64 (k.start:Int))).setCell ⟨L,1,none⟩ (.int .u64 (k.ag:Int))).setCell ⟨L,2,none⟩ (.int .u64 (k.dS:Int))) L {k0 with start:=k.start,ag:=k.ag,dS:=k.dS} B a c pl x false:=aN (i:=2) s1 _;have f3:=aC s2 3;have s3:aR ((((w3.setCell ⟨L,0,none⟩ (.int .u64 (k.start:Int))).setCell ⟨L,1,none⟩ (.int .u64 (k.ag:Int))).setCell ⟨L,2,none⟩ (.int .u64 (k.dS:Int))).setCell ⟨L,3,none⟩ (.int .u32 (k.an:Int))) L k B a c pl x false:=aN (i:=3) s2 _;have g0:=aR.cell G 0 (v:=.int .u64 (k0.start:Int)) rfl;have g1:=aR.cell s0 1 (v:=.int .u64 (k0.ag:Int)) rfl;have g2:=aR.cell s1 2 (v:=.int .u64 (k0.dS:Int)) rfl;have g3:=aR.cell s2 3 (v:=.int .u32 (k0.an:Int)) rfl;have S3:=GD s3;have aA:Touch (·=L) w3 ((((w3.setCell ⟨L,0,none⟩ (.int .u64 (k.start:Int))).setCell ⟨L,1,none⟩ (.int .u64 (k.ag:Int))).setCell ⟨L,2,none⟩ (.int .u64 (k.dS:Int))).setCell ⟨L,3,none⟩ (.int .u32 (k.an:Int))):=(((Touch.set (S:=(·=L)) L 0 _ rfl).trans (.set L 1 _ rfl)).trans (.set L 2 _ rfl)).trans (.set L 3 _ rfl);have aT:=GD aA;clear j s0 s1 s2 s3 G A aA;go_wp2_with fail
   go_ret;refine⟨rfl,S3.out,?_,((Touch.ax bt.out).trans bf.out).trans (aT.out.mono fun i _ l=>GL l)⟩;rw[bs.out];exact bm.out.bq aT.out (fun i l e=>s.out (e▸l))
def tM(B L g a W:Nat)(b:List Nat)(i:Nat)(v:Value)(w:World):Prop:=
 match i with
 |0=>v=.pointer (some ⟨L,0,none⟩)
 |1=>v=.pointer (some ⟨L,0,none⟩)
 |2=>v=.pointer (some ⟨L,4,none⟩)
 |3=>v=.pointer (some ⟨B,0,none⟩)
 |4=>v=.pointer (some ⟨L,0,none⟩)
 |5=>v=.int .u64 (g:Int)
 |6=>v=.int .i64 (a:Int)
 |7=>EX W w v b
 |8=>EX W w v b
 |9=>jX W w v b
 |10=>v=.int .i64 0
 |11=>jX W w v b
 |12=>v=.int .i64 0
 |_=>True
theorem yG(B L g a W:Nat)(b:List Nat)(i:Nat)(v:Value)(w w':World)(c:Below w.heap.size w w')(h:tM B L g a W b i v w):tM B L g a W b i v w':=by
 unfold tM at*
 split at h<;>first|exact h|exact h.below c|trivial
set_option maxHeartbeats 3200000 in
set_option maxRecDepth 20000 in
theorem ug{w:World}{L B a c m1 m2:Nat}{k0:Wl.Kn}{pl wa:Value}{dn:Bool}{d:Dk.ak}(h:aR w L k0 B a c pl wa dn)(hP:bc w B m1 m2 d)(ho:d.off=false)(o:1<=c)(m:c<=8192)(y:a+c+2<=Dk.size d)(hz:∀i,i<Dk.size d->Wl.kH d i=Dk.blank):
 Calls Tryz.prog 67 #[.pointer (some ⟨L,0,none⟩)] w fun e w'=>e=.returned (.int .i64 0)/\Below w.heap.size w w':=by
 have aq:=GD h;have aj:=GD hP;have al:=GD ho;have HC:Hid (1<=c/\c<=8192):=⟨o,m⟩
 have ad:=hP.own.size;have ar:=GD y;have HA:Hid (a<=65536):=by show _<=_;omega
 have HZ:=GD hz;have R:=C9 128 (by decide) w;have C:=Da 128 (by decide) w;have F:=ae w (.cells (ai (Wl.aY 128)).toArray 5);obtain⟨z1,A⟩:∃z,z=w.alloc (.cells (ai (Wl.aY 128)).toArray 5):=⟨_,rfl⟩
 obtain⟨G,hG⟩:∃g,g=w.heap.size:=⟨_,rfl⟩
 rw[<-A,<-hG,show((128:Nat):Int)=128 from rfl]at R;rw[<-A]at C F;have Z:=GD F;have U:=GD C;obtain⟨n2,E⟩:∃n,n=2*c:=⟨_,rfl⟩
 have l:=fun wr(hl:aR wr L k0 B a c pl wa dn)=>gl hl m;rw[<-E]at l;rw[<-hG]at U;have V:=GD l;have J:=GD E;have ax:=GD hG;clear h hP ho o m y hz ad C F A E l hG;go_enter Tryz.func67,Tryz.ntmps67;go_upto_region 2 with(fail)
 clear R;go_wp2_with fail
 go_loopw [4] (fun i wr=>∃j:Nat,j<=c/\i=.int .u64 ((2*j:Nat):Int)/\Below z1.heap.size z1 wr) (fun i _=>2*c+2-(intOf i).toNat)
 case atStart=>exact⟨0,G7 _,rfl,GF _ _⟩
 case round=>
  obtain⟨j,hj,rfl,t⟩:=hrel;have N:=GD (Z.out.trans (t.mono Z.out.size));have an:=GD (U.out.below t);have Y:=GD t;have x:=GD (aq.out.below N.out);have ah:=GD (aj.out.below N.out);have M:=GD (V.out wr x.out);have ao:Hid (L<wr.heap.size):=x.out.lt;have C4:=GD (x.out.cell 4 (v:=.pointer (some ⟨B,0,none⟩)) rfl);obtain⟨g,hg⟩:∃g,g=2*j:=⟨_,rfl⟩
  rw[<-hg];have X:=GD hg;have HJ:=GD hj;clear t hj hg;by_cases hlt:g<n2
  ·have hi:(g:Int)<(n2:Int):=by omega
   have S:Hid (a+2+g%(2*c)/2<Dk.size d):=by
    have h1:=Wl.kO (n:=c) (h:=g) HC.out.1;have h2:=ar.out;show _<_;omega
   have av:Hid (Wl.kH d (a+2+g%(2*c)/2)=Dk.blank):=HZ.out _ S.out;have W:Hid (g<n2):=hlt;have h6:=Hv ((g:Int)+2) (by have h1:=J.out;have h2:=HC.out;omega);clear hlt;go_upto_region 5 with(go_at_call 87;refine M.out.mono ?_;rintro e w'⟨rfl,rfl⟩)
   clear M;refine Ord.walk (tM B L g (a+2+g%(2*c)/2) wr.heap.size Dk.blank) (fun _ _ w'=>Below wr.heap.size wr w') (fun a b=>Below a.heap.size a b)
    (by kernel_rfl) (by kernel_rfl) ?fra ?hfra (fun i v w w' t h=>yG _ _ _ _ _ _ i v w w' t h) (fun xs=>(GF _ _).ij) ?hea ?henda
   case hfra=>
    intro xs;simp only[Ord.fill,Act.put,GP,GX,GV];rfl
   case hea=>
    iterate 13 (refine Ord.aa (fun D xs w2 hD hC hP hR f K k=>?_) ?_;rotate_left)
    rotate_left
    ·clear f;go_simp;exact k _ _ ⟨_,rfl,GF _ _,hR,rfl⟩
    ·have q0:=Ord.ab _ f 0 (by decide);simp only[tM]at q0;simp only[q0]at k;clear f;go_simp;exact k _ _ ⟨_,rfl,GF _ _,hR,rfl⟩
    ·have q1:=Ord.ab _ f 1 (by decide);simp only[tM]at q1;simp only[q1]at k;clear f;go_simp;exact k _ _ ⟨_,rfl,GF _ _,hR,rfl⟩
    ·have q2:=Ord.ab _ f 2 (by decide);simp only[tM]at q2;simp only[q2]at k;clear f;have cc:=hR.cell (p:=⟨L,4,none⟩) ao.out;rw[C4.out]at cc;go_simp;exact k _ _ ⟨_,rfl,GF _ _,hR,rfl⟩
    ·clear f;go_simp;exact k _ _ ⟨_,rfl,GF _ _,hR,rfl⟩
    ·clear f;go_simp;exact k _ _ ⟨_,rfl,GF _ _,hR,rfl⟩
    ·have q4:=Ord.ab _ f 4 (by decide);simp only[tM]at q4;have q5:=Ord.ab _ f 5 (by decide);simp only[tM]at q5;simp only[q4,q5]at k;clear f;go_simp;refine(jd (x.out.below hR) g HC.out.1 HC.out.2 HA.out).mono ?_;rintro e w'⟨rfl,q,rfl⟩;exact k _ _ ⟨_,rfl,below_drewN _ _ _,hR.trans (below_drewN _ _ _),rfl⟩
    ·have q3:=Ord.ab _ f 3 (by decide);simp only[tM]at q3;have q6:=Ord.ab _ f 6 (by decide);simp only[tM]at q6;simp only[q3,q6]at k;clear f;have Q:=nA (ah.out.below hR) al.out S.out;rw[av.out]at Q;go_simp;refine Q.mono ?_;rintro e w'⟨u,rfl,hM,t⟩;exact k _ _ ⟨_,rfl,t,hR.trans (t.mono hR.size),u,rfl,hM.from hR.size⟩
    ·have q7:=Ord.ab _ f 7 (by decide);simp only[tM]at q7;clear f;go_simp;exact k _ _ ⟨_,rfl,GF _ _,hR,q7⟩
    ·have O:=Ord.ab _ f 8 (by decide);simp only[tM]at O;obtain⟨u8,e8,m8⟩:=O;clear f;rw[e8]at k⊢;go_simp;exact k _ _ ⟨_,rfl,GF _ _,hR,m8⟩
    ·have O:=Ord.ab _ f 8 (by decide);simp only[tM]at O;obtain⟨u8,e8,m8⟩:=O;clear f;rw[e8]at k⊢;go_simp;exact k _ _ ⟨_,rfl,GF _ _,hR,rfl⟩
    ·have q9:=Ord.ab _ f 9 (by decide);simp only[tM]at q9;clear f;go_simp;exact k _ _ ⟨_,rfl,GF _ _,hR,q9⟩
    ·have P:=Ord.ab _ f 10 (by decide);simp only[tM]at P;simp only[P]at k;clear f;go_simp;exact k _ _ ⟨_,rfl,GF _ _,hR,rfl⟩
    exact Ord.ay
   case henda=>
    intro D xs w9 hR s;have e0:=(s 0 (by decide)).2;have e1:=(s 1 (by decide)).2;have e2:=(s 2 (by decide)).2;have e3:=(s 3 (by decide)).2;have e4:=(s 4 (by decide)).2;have e5:=(s 5 (by decide)).2;have e6:=(s 6 (by decide)).2;have I:=(s 10 (by decide)).2;have H:=(s 12 (by decide)).2;have r:=(s 11 (by decide)).2;simp only[tM]at e0 e1 e2 e3 e4 e5 e6 I H r;rw[e0];rw[e1];rw[e2];rw[e3];rw[e4];rw[e5];rw[e6];rw[I];rw[H];clear e0 e1 e2 e3 e4 e5 e6 I H;clear s;generalize xs 7=x7 at*
    generalize xs 8=x8 at*
    generalize xs 9=x9 at*
    generalize xs 11=x11 at*
    have HM:=GD r;have T:=GD hR;clear hR r;obtain⟨gb,cap,hu,ag,af,o,m⟩:=HM.out.some (by decide);rw[show Dk.blank.length=128 from by decide]at hu o;subst hu;have heq:=aG (.slice (some ⟨gb,0,none⟩) 128 cap) (.slice (some ⟨G,0,none⟩) 128 128) Dk.blank (Wl.aY 128) w9 HM.out.aP (an.out.below T.out).aP;rw[show decide (Dk.blank=Wl.aY 128)=true from GK rfl]at heq;have au:=GD heq;have aw:=GD (Y.out.trans (T.out.mono Y.out.size));clear heq ag af o m;go_wp2_with (go_at_call 99;refine au.out.mono ?_;rintro e w'⟨rfl,rfl⟩)
    go_roundw
    case rel=>exact⟨j+1,by have h1:=W.out;have h2:=X.out;have h3:=J.out;omega,Ho (Value.int .u64) (by have:=X.out;omega),aw.out⟩
    case measure=>have h1:=W.out;have h2:=J.out;simp only[intOf];omega
  ·have hi:¬(g:Int)<(n2:Int):=by omega
   clear hlt;go_wp2_with (go_at_call 87;refine M.out.mono ?_;rintro e w'⟨rfl,rfl⟩)
   go_ret;exact⟨rfl,N.out⟩
set_option maxHeartbeats 3200000 in
set_option maxRecDepth 20000 in
theorem sn{w:World}{L B a c j g n:Nat}{k0:Wl.Kn}{pl q:Value}{d:Dk.ak}(h:aR w L k0 B a c pl q false)(r:bc w B j g d)(hC:Wl.Calm n d)(l:1<=c)(f:c<=8192)(b:a+c+2<=n)(hz:∀i,i<Dk.size d->Wl.kH d i=Dk.blank)(m:¬DS B j g L):
 Calls Tryz.prog 43 #[.pointer (some ⟨L,0,none⟩)] w fun e w'=>e=.returned (.int .i64 0)/\aR w' L ⟨52,52,0,1⟩ B a c pl q false/\bc w' B j g (Wl.told d a (Wl.head a c ⟨52,52,0,1⟩))/\Touch (jr B j g L) w w':=by
 have o:=GD (ug h r hC.off l f (by rw[hC.sz];exact b) hz);have t:=GD h;have s:=GD r;have A:=GD hC;have v:=GD b;have x:=GD f;have u:=GD m;clear h r hC l f b hz m;go_enter Tryz.func43,Tryz.ntmps43;go_wp2_with fail
 refine o.out.mono ?_;rintro e w1⟨rfl,p⟩;have k:Calls Tryz.prog 68 #[.pointer (some ⟨L,0,none⟩),.agg #[.int .u64 52,.int .u64 52,.int .u64 0,.int .u32 1]] w1 fun e w'=>e=.returned (.int .i64 0)/\aR w' L ⟨52,52,0,1⟩ B a c pl q false/\bc w' B j g (Wl.told d a (Wl.head a c ⟨52,52,0,1⟩))/\Touch (jr B j g L) w1 w':=
  uh (t.out.below p) (s.out.below p) A.out ⟨52,52,0,1⟩ v.out x.out u.out
 have y:=GD k;have C:=GD p;clear k p o;go_wp2_with fail
 refine y.out.mono ?_;rintro e w2⟨rfl,hl,hp,k⟩;have z:Hid (_/\_/\_):=⟨hl,hp,(Touch.ax C.out).trans k⟩
 clear hl hp k y;go_wp2_with fail
 go_ret;exact⟨rfl,z.out⟩
set_option maxHeartbeats 3200000 in
set_option maxRecDepth 20000 in
theorem uk{w:World}{B q p:Nat}{d:Dk.ak}(m:bc w B q p d){a c:Int}(l:bF a)(k:bF c)(n:¬Wl.Fits (Dk.size d) a c)(f:Value):
 Calls Tryz.prog 42 #[.pointer (some ⟨B,0,none⟩),.int .i64 a,.int .i64 c,f] w fun e w'=>e=.returned (.tuple #[.pointer none,.int .i64 2])/\w=w':=by
 have h:=(iq m).mono (R':=fun e w'=>e=.returned (.int .i64 (Dk.size d:Nat))/\w=w') fun _ _⟨j,i⟩=>⟨j,i.symm⟩
 have j:=m.own.one;have i:=m.own.size;obtain⟨N,o⟩:∃N,N=Dk.size d:=⟨_,rfl⟩
 rw[<-o]at h j i n;have r:¬(N:Int)=0:=by omega
 have g:=GD h;unfold bF at l k;have b:c<16\/8192<c\/a<0\/(N:Int)-2-c<a:=by
  unfold Wl.Fits at n;omega
 clear m o h n;by_cases v:c<16
 ·clear l k b j i;go_enter Tryz.func42,Tryz.ntmps42;go_wp2_with (go_at_call 66;refine g.out.mono ?_;rintro e w'⟨rfl,rfl⟩)
  go_ret2
  exact⟨rfl,rfl⟩
 by_cases u:8192<c
 ·clear l k b j i;go_enter Tryz.func42,Tryz.ntmps42;go_wp2_with (go_at_call 66;refine g.out.mono ?_;rintro e w'⟨rfl,rfl⟩)
  go_ret2
  exact⟨rfl,rfl⟩
 by_cases t:a<0
 ·clear l k b j i;go_enter Tryz.func42,Tryz.ntmps42;go_wp2_with (go_at_call 66;refine g.out.mono ?_;rintro e w'⟨rfl,rfl⟩)
  go_ret2
  exact⟨rfl,rfl⟩
 ·have s:(N:Int)-2-c<a:=by omega
  have w1:=IA ((N:Int)-2) (by omega);have w2:=IA ((N:Int)-2-c) (by omega);clear l k b j i;go_enter Tryz.func42,Tryz.ntmps42;go_wp2_with (go_at_call 66;refine g.out.mono ?_;rintro e w'⟨rfl,rfl⟩)
  go_ret2
  exact⟨rfl,rfl⟩
set_option maxHeartbeats 3200000 in
set_option maxRecDepth 20000 in
theorem sm{w:World}{B t s a c:Nat}{d:Dk.ak}(g:bc w B t s d)(j:16<=c)(i:c<=8192)(r:a+c+2<=Dk.size d)(R:Nat->World->Prop)
 (hf:∀w1 L,Below w.heap.size w w1->w.heap.size<=L->aR w1 L ⟨0,0,0,0⟩ B a c (.slice none 0 0) (.slice none 0 0) false->Calls Tryz.prog 43 #[.pointer (some ⟨L,0,none⟩)] w1 fun e w'=>e=.returned (.int .i64 0)/\R L w'):
 Calls Tryz.prog 42 #[.pointer (some ⟨B,0,none⟩),.int .i64 (a:Int),.int .i64 (c:Int),.func (.func 43) #[] #[]] w fun e w'=>∃L,e=.returned (.tuple #[.pointer (some ⟨L,0,none⟩),.int .i64 0])/\R L w':=by
 have b:=(iq g).mono (R':=fun e w'=>e=.returned (.int .i64 (Dk.size d:Nat))/\w=w') fun _ _⟨j,i⟩=>⟨j,i.symm⟩
 have q:=g.own.one;have p:=g.own.size;obtain⟨N,o⟩:∃N,N=Dk.size d:=⟨_,rfl⟩
 rw[<-o]at b r q p;have h:¬(N:Int)=0:=by omega
 have k:=GD b;have y:¬(c:Int)<16:=by omega
 have x:¬(8192:Int)<(c:Int):=by omega
 have v:¬(a:Int)<0:=by omega
 have u:¬(N:Int)-2-(c:Int)<(a:Int):=by omega
 have w1:=IA ((N:Int)-2) (by omega);have w2:=IA ((N:Int)-2-(c:Int)) (by omega);have A:=GD hf;clear g o b j i r q p hf;go_enter Tryz.func42,Tryz.ntmps42;go_upto_region 7 with(go_at_call 66;refine k.out.mono ?_;rintro e w'⟨rfl,rfl⟩)
 have n:=ae w (.cells (CF ⟨0,0,0,0⟩ B a c (.slice none 0 0) (.slice none 0 0) false) 122);have hl:aR (w.alloc (.cells (CF ⟨0,0,0,0⟩ B a c (.slice none 0 0) (.slice none 0 0) false) 122)) w.heap.size ⟨0,0,0,0⟩ B a c (.slice none 0 0) (.slice none 0 0) false:=GM _ _;have m:=A.out _ _ n (GH _) hl;have f:Hid (Calls Tryz.prog 43 #[.pointer (some ⟨w.heap.size,0,none⟩)] (w.alloc (.cells #[.int .u64 0,.int .u64 0,.int .u64 0,.int .u32 0,.pointer (some ⟨B,0,none⟩),.int .i64 (a:Int),.int .i64 (c:Int),.slice none 0 0,.slice none 0 0,.bool false] 122)) fun e w'=>e=.returned (.int .i64 0)/\R w.heap.size w'):=m;clear n hl m y x v u w1 w2 h;generalize(w.alloc (.cells #[.int .u64 0,.int .u64 0,.int .u64 0,.int .u32 0,.pointer (some ⟨B,0,none⟩),.int .i64 (a:Int),.int .i64 (c:Int),.slice none 0 0,.slice none 0 0,.bool false] 122))=W at*
 generalize w.heap.size=L at*
 go_wp2_with fail
 refine f.out.mono ?_;rintro e C⟨rfl,l⟩;have z:=GD l;clear l f;go_wp2_with fail
 go_ret2
 exact⟨_,rfl,z.out⟩
theorem Wl.yq(n i:Nat)(a:i<n):Wl.kH (Dk.fresh n n) i=Dk.blank:=by
 unfold Wl.kH Dk.fresh;show((List.replicate n (none:Option (List Nat))).getD i none).getD ((List.replicate n Dk.blank).getD i [])=_;rw[Wl.gy];show(List.replicate n Dk.blank).getD i []=_;rw[GG,IU,GU a];rfl
def Gt(U:Nat->Prop)(n B:Nat)(a c:Int)(w:World)(e:Ending)(w':World):Prop:=
 (Wl.Fits n a c->∃L d f b,e=.returned (.tuple #[.pointer (some ⟨L,0,none⟩),.int .i64 0])/\jW d f w' B L b (Wl.fresh a.toNat c.toNat)/\Wl.l6 a.toNat c.toNat (Dk.fresh n n) b/\Wl.Calm n b/\Touch U w w'/\bA U d w/\(∀i,f i->w.heap.size<=i))/\
 (¬Wl.Fits n a c->e=.returned (.tuple #[.pointer none,.int .i64 2])/\∃d b,m7 d w' B b/\Wl.Calm n b/\Touch U w w'/\bA U d w)
set_option maxHeartbeats 3200000 in
set_option maxRecDepth 20000 in
theorem sh{U:Nat->Prop}{w:World}{B n:Nat}(a c:Int)(h:m7 U w B (Dk.fresh n n))(hC:Wl.Calm n (Dk.fresh n n))(v:bF a)(u:bF c):
 Calls Tryz.prog 16 #[.pointer (some ⟨B,0,none⟩),.int .i64 a,.int .i64 c] w fun e w'=>Gt U n B a c w e w':=by
 have l:=GD h;obtain⟨o,m,j,rfl⟩:=h;have f:Dk.size (Dk.fresh n n)=n:=hC.sz;by_cases hf:Wl.Fits n a c
 case neg=>
  have hl:=uk j v u (by rw[f];exact hf) (.func (.func 43) #[] #[]);have t:=GD hl;have M:=GD hf;have D:=GD hC;clear j f hl hf v u hC;go_enter Tryz.func16,Tryz.ntmps16;go_wp2_with fail
  refine t.out.mono ?_;rintro e w1⟨rfl,rfl⟩;go_wp2_with fail
  go_ret2
  exact⟨fun h=>absurd h M.out,fun _=>⟨rfl,_,_,l.out,D.out,.refl _ _,fun i g=>GJ g⟩⟩
 case pos=>
  obtain⟨f1,f2,f3,f4⟩:=hf;obtain⟨A,rfl⟩:∃A:Nat,a=(A:Int):=⟨a.toNat,by omega⟩
  obtain⟨C,rfl⟩:∃C:Nat,c=(C:Int):=⟨c.toNat,by omega⟩
  have x:16<=C:=by omega
  have r:C<=8192:=by omega
  have q:A+C+2<=n:=by omega
  have hz:∀i,i<Dk.size (Dk.fresh n n)->Wl.kH (Dk.fresh n n) i=Dk.blank:=fun i g=>Wl.yq n i (by rw[<-f];exact g);have hl:=sm j (a:=A) (c:=C) x r (by rw[f];exact q)
   (fun L w'=>w.heap.size<=L/\aR w' L ⟨52,52,0,1⟩ B A C (.slice none 0 0) (.slice none 0 0) false/\bc w' B o m (Wl.told (Dk.fresh n n) A (Wl.head A C ⟨52,52,0,1⟩))/\Touch (jr B o m L) w w')
   (fun w1 L E k b=>(sn b (j.below E) hC (by omega) r q hz (fun F=>by have:=j.lt L F;omega)).mono fun e w'⟨J,I,H,G⟩=>⟨J,k,I,H,(Touch.ax E).trans G⟩)
  have t:=GD hl;have z:Hid (Wl.Fits n (A:Int) (C:Int)):=⟨f1,f2,f3,f4⟩
  have D:=GD hC;have s:=GD j;have y:Hid (16<=C/\C<=8192/\A+C+2<=Dk.size (Dk.fresh n n)):=⟨x,r,by rw[f];exact q⟩
  have K:=GD hz;clear j f hl v u hC f1 f2 f3 f4 x r q hz;go_enter Tryz.func16,Tryz.ntmps16;go_wp2_with fail
  refine t.out.mono ?_;rintro e w1⟨L,rfl,k,b,hp,p⟩;have N:Hid (_/\_/\_/\_):=⟨k,b,hp,p⟩
  clear k b hp p t;go_wp2_with fail
  go_ret2
  obtain⟨k,b,hp,p⟩:=N.out;refine⟨fun _=>⟨L,DS B o m,pC L (.slice none 0 0) (.slice none 0 0),_,rfl,⟨o,m,.slice none 0 0,.slice none 0 0,⟨Wl.Bc y.out.1 y.out.2.1,b,DB _ _,cU _ _,(fun h=>by cases h),(fun h=>by cases h),(fun i h=>by cases h)⟩,rfl,hp,rfl,fun i g d=>?_,52,GH _,Wl.Bg s.out.own.ok y.out.2.2 K.out⟩,Wl.l6.told s.out.own.ok (Wl.lM _ _ _),Wl.yB D.out s.out.own.ok (Wl.lM _ _ _),p.mono fun i g hs=>?_,fun i g=>GJ g,fun i d=>?_⟩,fun h=>absurd z.out h⟩
  ·have O:=s.out.lt i g;rcases d with d|d|d
   ·omega
   ·cases d
   ·cases d
  ·rcases hs with hs|hs
   ·exact hs
   ·omega
  ·rcases d with d|d|d
   ·omega
   ·cases d
   ·cases d
end Go.Proofs.YtbpodmallknhfaaGreat
namespace Go.Proofs.YtbpodmallknhfaaGreat.Wl
open Go.Proofs.YtbpodmallknhfaaGreat
theorem zT{n g h:Nat}(e:g/2=h/2):g%(2*n)/2=h%(2*n)/2:=by
 rw[Nat.mod_mul_right_div_self,Nat.mod_mul_right_div_self,e]
def fO(s:S):Nat:=(s.stop-1)/52
structure m6(s:S)(g:Nat):Prop where
 low:s.ag/52<=g
 high:g<=fO s
theorem m6.facts{s:S}{g:Nat}(h:m6 s g)(a:Ex s)(b:s.ag<s.stop):s.start/52<=g/\g<s.start/52+2*s.count/\g*52<s.stop/\s.ag<(g+1)*52:=by
 have j:=h.low;have d:=h.high;have i:=a.room;have c:=a.aI.low;unfold fO at d;have f:s.start/52<=s.ag/52:=Nat.div_le_div_right c;refine⟨by omega,?_,by omega,by omega⟩;have e:(s.stop-1)/52<s.start/52+2*s.count:=by
  rw[Nat.div_lt_iff_lt_mul (by decide)];omega
 omega
theorem m6.ok{s:S}{g:Nat}(h:m6 s g)(a:Ex s)(b:s.ag<s.stop)(hs:s.stop<=1000000000000):vV s.ag s.an (2*s.count) (waits s) g:=by
 obtain⟨k,j,i,f⟩:=h.facts a b;have e:=eT a.aI;have d:=a.low;refine⟨by unfold iz;omega,by unfold xr iz;omega,?_,a.ep⟩;have c:g/(2*s.count)<=g/32:=Nat.div_le_div_left (by omega) (by decide);omega
theorem CP{s:S}{said g:Nat}{d:Dk.ak}(h:m6 s g)(b:Ex s)(l:Dv s said d)(k:s.ag<s.stop)(_:s.stop<=1000000000000)(hl:(Wl.half s d g).log.length=52):
 rY s said (g%(2*s.count)) (nw s.ag s.an (2*s.count) (waits s) (Wl.half s d g) g)/\rY (flush s) said (g%(2*s.count)) (nw s.ag s.an (2*s.count) (waits s) (Wl.half s d g) g):=by
 obtain⟨e,n,m,t⟩:=h.facts b k;have r:=eT b.aI;have a:(nw s.ag s.an (2*s.count) (waits s) (Wl.half s d g) g).fill=min 52 (s.stop-g*52):=by
  show iz s.ag g+fG s.ag (waits s).length g=_;unfold fG xr iz;omega
 have c:∀i,i<(nw s.ag s.an (2*s.count) (waits s) (Wl.half s d g) g).fill->s.start<=g*52+i->(nw s.ag s.an (2*s.count) (waits s) (Wl.half s d g) g).log.getD i 0=jT s (g*52+i):=by
  intro i p hp;have j:i<iz s.ag g+fG s.ag (waits s).length g:=p;show(jO _ _ _ _ _).log.getD i 0=_;rw[Bb hl (by unfold fG iz;omega) (by unfold fG;omega) j];have o:=(l.half (by have:=b.low;omega) g).lo g e rfl;by_cases f:i<iz s.ag g
  ·rw[GU f];unfold iz at f;exact(l.half (by have:=b.low;omega) g).is g i e rfl (by omega) hp
  ·rw[GQ f];have q:=b.aI.low;unfold waits jT;rw[mr];congr 1
   unfold xr iz at*
   omega
 exact⟨wH e n rfl rfl rfl a m c b.room b.aI.high,wH (s:=flush s) e n rfl rfl rfl a m c b.room (GH _)⟩
structure Wr(s:S)(said:Nat)(d:Dk.ak)(h:Nat):Prop where
 dv:Dv s said d
 new:∀g,m6 s g->g<h->rY (flush s) said (g%(2*s.count)) (Wl.half s d g)
theorem zg{s:S}{said:Nat}{d:Dk.ak}(h:Dv s said d):Wr s said d (s.ag/52):=⟨h,fun g a b=>absurd a.low (by omega)⟩
theorem ye{s:S}{d a:Dk.ak}(hl:a.aL=d.aL)(hw:a.waits=d.waits)(g:Nat):Wl.half s a g=Wl.half s d g:=by
 unfold Wl.half kH;rw[hl,hw]
theorem Wr.bX{s:S}{said h:Nat}{d:Dk.ak}(H:Wr s said d h):Wr s said (Dk.bX d) h:=by
 obtain⟨e,c,-,-⟩:=Dk.eb d;exact⟨H.dv.bX,fun g b a=>by rw[ye e c];exact H.new g b a⟩
theorem Wr.put{s:S}{said h:Nat}{d:Dk.ak}{b:List Nat}(H:Wr s said d h)(o:Ex s)(i:s.ag<s.stop)(hs:s.stop<=1000000000000)(A:m6 s h)
 (v:Sn s.ag s.an (2*s.count) (waits s) (kH d (s.at_+2+h%(2*s.count)/2)) h (min (fO s) (h/2*2+1)+1) b):Wr s said (Dk.put d (s.at_+2+h%(2*s.count)/2) b) (h/2*2+2):=by
 have m:=H.dv;have J:=o.low;have z:=m.fits;have y:=kO (n:=s.count) (h:=h) (by omega);have hlen:∀g,(Wl.half s d g).log.length=52:=fun g=>oL (rM m.ok (by have:=kO (n:=s.count) (h:=g) (by omega);omega)).1 (by omega);have q:∀t,h<=t->t<min (fO s) (h/2*2+1)+1->m6 s t:=fun t f a=>⟨GR A.low f,by omega⟩
 have c:∀t,h<=t->t<min (fO s) (h/2*2+1)+1->t%(2*s.count)/2=h%(2*s.count)/2:=fun t f a=>zT (by omega);have j:∀t,h<=t->t<min (fO s) (h/2*2+1)+1->eA (hf b (t%2))=nw s.ag s.an (2*s.count) (waits s) (Wl.half s d t) t:=by
  intro t f a;rw[v.new t f a];unfold Wl.half;rw[c t f a]
 have p:∀k,k<2->rY s said (2*(h%(2*s.count)/2)+k) (eA (hf b k)):=by
  intro k p;by_cases hex:∃t,h<=t/\t<min (fO s) (h/2*2+1)+1/\t%2=k
  ·obtain⟨t,f,a,rfl⟩:=hex;rw[j t f a,<-c t f a,<-nR];exact(CP (q t f a) o m i hs (hlen t)).1
  ·rw[v.old k p fun t f a e=>hex ⟨t,f,a,e⟩];exact(m.kH y).hf p
 have hw:s.at_+2+h%(2*s.count)/2<d.waits.length:=by rw[m.ok.w];omega
 refine⟨m.put y v.sec ⟨p 0 (by decide),p 1 (by decide)⟩,fun g u hlt=>?_⟩;have l:Wl.half s (Dk.put d (s.at_+2+h%(2*s.count)/2) b) g=if h%(2*s.count)/2=g%(2*s.count)/2 then eA (hf b (g%2))else Wl.half s d g:=by
  unfold Wl.half;rw[rN hw];by_cases e:h%(2*s.count)/2=g%(2*s.count)/2
  ·rw[GU (by omega),GU e]
  ·rw[GQ (by omega),GQ e]
 rw[l];by_cases r:h<=g
 ·have a:g<min (fO s) (h/2*2+1)+1:=by have:=u.high;omega
  rw[GU (c g r a).symm,j g r a];exact(CP u o m i hs (hlen g)).2
 ·by_cases e:h%(2*s.count)/2=g%(2*s.count)/2
  ·rw[GU e];have x:∀t,h<=t->t<min (fO s) (h/2*2+1)+1->t%2≠g%2:=by
    intro t f a I;have E:=c t f a;have G:t%(2*s.count)=g%(2*s.count):=by rw[nR (n:=s.count) (h:=t),nR (n:=s.count) (h:=g),E,e,I]
    obtain⟨f1,f2,-,-⟩:=(q t f a).facts o i;obtain⟨f3,f4,-,-⟩:=u.facts o i;have d1:=Nat.div_add_mod t (2*s.count);have d2:=Nat.div_add_mod g (2*s.count);have D:t/(2*s.count)≠g/(2*s.count):=fun F=>by rw[F,G]at d1;omega
    have C:g/(2*s.count)<t/(2*s.count):=Nat.lt_of_le_of_ne (Nat.div_le_div_right (by omega)) (H4 D);have B:2*s.count*(g/(2*s.count)+1)<=2*s.count*(t/(2*s.count)):=Nat.mul_le_mul_left _ C;rw[Jl]at B;omega
   rw[v.old (g%2) (by omega) x];have:=H.new g u (by omega);unfold Wl.half at this;rw[<-e]at this;exact this
  ·rw[GQ e];exact H.new g u (by omega)
theorem Wr.done{s:S}{said h:Nat}{d:Dk.ak}(H:Wr s said d h)(v:Ex s)(x:s.ag<s.stop)(y:fO s<h):Dv (flush s) said (Dk.last d):=by
 have f:=H.dv;have z:=v.low;have u:=f.fits;have m:=f.last;have r:∀j,j<s.count->∀k,k<2->rY (flush s) said (2*j+k) (eA (hf (kH d (s.at_+2+j)) k)):=by
  intro j c k t;by_cases hex:∃g,m6 s g/\g%(2*s.count)=2*j+k
  ·obtain⟨g,a,e⟩:=hex;have i:=H.new g a (by have:=a.high;omega);rw[e]at i;have q:=nR (n:=s.count) (h:=g);unfold Wl.half at i;rw[show g%(2*s.count)/2=j by omega,show g%2=k by omega]at i;exact i
  ·refine((f.kH c).hf t).ag fun g i q=>?_;have w:=((f.kH c).hf t).lo g i q;have l:¬m6 s g:=fun a=>hex ⟨g,a,q⟩;have a:g<s.ag/52\/fO s<g:=by
    rcases Hi g (s.ag/52)with p|p
    ·exact GJ p
    ·rcases Hi (fO s) g with o|o
     ·exact GL o
     ·exact absurd ⟨p,o⟩ l
   unfold fO at a;rcases a with a|a
   ·omega
   ·omega
 have hz:=Dk.ch f.ok;refine⟨m.ok,m.fits,m.hl,m.hw,fun j c=>?_,fun j b c hw=>?_⟩
 ·show jv _ _ _ ((Dk.last d).aL.getD (s.at_+2+j) []);rw[Dk.dX f.ok (by have c:j<s.count:=c;omega)];exact⟨r j c 0 (by decide),r j c 1 (by decide)⟩
 ·have hw:(Dk.none_ d).getD (s.at_+2+j) none=some b:=hw;unfold Dk.none_ at hw;rw[gy]at hw;cases hw
theorem dU{n:Nat}{d:Dk.ak}(h:aX n d)(f:d.off=false){i:Nat}(o:i<n){b:List Nat}(e:Dk.gi b):Dk.write d (i:Int) b=(Dk.bX (Dk.put d i b),if(Dk.bX (Dk.put d i b)).off then 6 else 0)/\aX n (Dk.bX (Dk.put d i b)):=by
 have a:=h.sz;have m:¬(d.off=true):=by rw[f];decide
 have l:¬(Dk.bad d (i:Int)\/b.length≠128):=by have:=e.1;unfold Dk.bad;omega
 have c:¬(d.seen.getD (i:Int).toNat false=false/\d.bD<=Dk.used d):=by
  rw[Ic];rintro⟨c,k⟩;have hl:i<d.seen.length:=by rw[h.ok.s];omega
  have p:=Dk.fH hl c;have j:(d.seen.set i true).count true<=(d.seen.set i true).length:=List.count_le_length;rw[G4,h.ok.s]at j;have:=h.bD;unfold Dk.used at k;omega
 refine⟨?_,?_⟩
 ·unfold Dk.write;rw[GQ m,GQ l,GQ c,Ic]
 ·have g:=Dk.eb (Dk.put d i b);exact⟨Dk.lF (Dk.eU h.ok i e),by rw[Dk.mq];exact a,by rw[g.2.2.2];exact h.bD⟩
theorem tH{n:Nat}{d:Dk.ak}(h:Calm n d)(i:Nat)(b:List Nat):Calm n (Dk.bX (Dk.put d i b)):=by
 rw[Dk.iU (d:=Dk.put d i b) h.bR];exact⟨h.off,h.bR,h.sz,h.bD⟩
theorem gK{n:Nat}{d:Dk.ak}(h:aX n d)(c:d.off=false):(Dk.sync d=(Dk.bX d,6)/\aX n (Dk.bX d)/\¬Calm n d)\/(Dk.sync d=(Dk.last (Dk.bX d),0)/\aX n (Dk.last (Dk.bX d))/\(Calm n d->Calm n (Dk.last (Dk.bX d)))):=by
 have e:=Dk.eb d;have b:aX n (Dk.bX d):=⟨Dk.lF h.ok,by rw[Dk.mq];exact h.sz,by rw[e.2.2.2];exact h.bD⟩
 unfold Dk.sync;rw[GQ (by rw[c];decide)];cases hoff:(Dk.bX d).off with
 |true=>
  rw[GU rfl];refine GJ ⟨rfl,b,fun a=>?_⟩;rw[Dk.iU a.bR,c]at hoff;cases hoff
 |false=>
  rw[GQ (by decide)];refine GL ⟨rfl,⟨Dk.lE b.ok,by rw[Dk.ch b.ok];exact b.sz,b.bD⟩,fun a=>?_⟩;rw[Dk.iU a.bR];exact⟨a.off,a.bR,by rw[Dk.ch h.ok];exact a.sz,a.bD⟩
end Go.Proofs.YtbpodmallknhfaaGreat.Wl
namespace Go.Proofs.YtbpodmallknhfaaGreat.Rg
open Go.Proofs.YtbpodmallknhfaaGreat
def lv(d:Dk.ak)(i:Nat):List Nat:=d.aL.getD i []
def wv(d:Dk.ak)(i:Nat):Option (List Nat):=d.waits.getD i none
def QS(d:Dk.ak)(i:Nat):Prop:=∀x,wv d i=some x->x=lv d i
def jV(r:Dk.ak×Nat)(f:Dk.ak->Dk.ak×Nat):Dk.ak×Nat:=if r.2≠0 then r else f r.1
theorem eo{r:Dk.ak×Nat}(f:Dk.ak->Dk.ak×Nat)(h:r.2=0):jV r f=f r.1:=GQ (by omega)
theorem cH{r:Dk.ak×Nat}(f:Dk.ak->Dk.ak×Nat)(h:r.2≠0):jV r f=r:=GU h
def bL:Dk.ak->Nat->Nat->Dk.ak×Nat
 |d,_,0=>(d,0)
 |d,p,k+1=>if(Dk.read d (p:Int)).2≠0 then(d,(Dk.read d (p:Int)).2)else if(Dk.read d (p:Int)).1=Dk.blank then jV (Dk.write d (p:Int) Dk.blank) (fun e=>bL e (p+1) k)else bL d (p+1) k
def gR(b:List Nat):List (List Nat):=(List.range 5).map (part 128 b)
def rA(d:Dk.ak)(s:Nat)(nb:List Nat):Dk.ak×Nat:=jV (Dk.jc d s (gR nb)) Dk.sync
def dB(d:Dk.ak)(s p:Nat)(fm:List Nat):Dk.ak×Nat:=
 jV (Dk.jc d p (Dk.fX fm)) fun d=>jV (Dk.sync d) fun d=>jV (Dk.write d (s:Int) Dk.blank) Dk.sync
def du(d:Dk.ak)(s p:Nat)(fm nb:List Nat):Dk.ak×Nat:=jV (bL d p 4) fun d=>jV (rA d s nb) fun d=>dB d s p fm
inductive Ro(A:Nat->Prop)(n:Nat):Dk.ak->Dk.ak->Prop
 |refl (d:Dk.ak):Ro A n d d
 |write {d e:Dk.ak} {i:Nat} {b:List Nat} (h:Ro A n d e) (f:A i) (a:i<n) (c:Dk.gi b):Ro A n d (Dk.write e (i:Int) b).1
 |sync {d e:Dk.ak} (h:Ro A n d e):Ro A n d (Dk.sync e).1
theorem Ro.trans{A:Nat->Prop}{n:Nat}{d e f:Dk.ak}(h:Ro A n d e)(k:Ro A n e f):Ro A n d f:=by
 induction k with
 |refl=>exact h
 |write _ hA hi hb ih=>exact ih.write hA hi hb
 |sync _ ih=>exact ih.sync
theorem iR{d:Dk.ak}{i:Int}{b:List Nat}(h:d.off=true):Dk.write d i b=(d,6):=by unfold Dk.write;rw[GU h]
theorem jD{d:Dk.ak}(h:d.off=true):Dk.sync d=(d,6):=by unfold Dk.sync;rw[GU h]
theorem Ro.cy{A:Nat->Prop}{n:Nat}{d e:Dk.ak}(h:Ro A n d e)(f:Wl.aX n d):Wl.aX n e:=by
 induction h with
 |refl=>exact f
 | @write e i b _ hA hi hb ih=>
  cases ho:e.off with
  |true=>rw[iR ho];exact ih
  |false=>rw[(Wl.dU ih ho hi hb).1];exact(Wl.dU ih ho hi hb).2
 | @sync e _ ih=>
  cases ho:e.off with
  |true=>rw[jD ho];exact ih
  |false=>
   rcases Wl.gK ih ho with⟨c,a,-⟩|⟨c,a,-⟩
   ·rw[c];exact a
   ·rw[c];exact a
structure Op(A:Nat->Prop)(n:Nat)(d:Dk.ak)(r:Dk.ak×Nat):Prop where
 ro:Ro A n d r.1
 calm:Wl.Calm n d->r.2=0/\Wl.Calm n r.1
 err:r.2=0\/r.2=6
 on:r.2=0->r.1.off=false
theorem iQ{A:Nat->Prop}{n:Nat}{d:Dk.ak}(h:Wl.aX n d){i:Nat}(j:A i)(a:i<n){b:List Nat}(c:Dk.gi b):Op A n d (Dk.write d (i:Int) b):=by
 refine⟨(Ro.refl d).write j a c,fun f=>?_,?_,?_⟩
 ·rw[(Wl.dU h f.off a c).1];have g:=Wl.tH f i b;refine⟨?_,g⟩;show(if(Dk.bX (Dk.put d i b)).off then 6 else 0)=0;rw[g.off];rfl
 ·cases ho:d.off with
  |true=>rw[iR ho];exact GL rfl
  |false=>
   rw[(Wl.dU h ho a c).1];show(if _ then 6 else 0)=0\/(if _ then 6 else 0)=6;split
   ·exact GL rfl
   ·exact GJ rfl
 ·cases ho:d.off with
  |true=>rw[iR ho];intro e;cases e
  |false=>
   rw[(Wl.dU h ho a c).1];show(if(Dk.bX (Dk.put d i b)).off then 6 else 0)=0->_;cases hg:(Dk.bX (Dk.put d i b)).off with
   |true=>intro e;cases e
   |false=>exact fun _=>rfl
theorem ji{A:Nat->Prop}{n:Nat}{d:Dk.ak}(h:Wl.aX n d):Op A n d (Dk.sync d):=by
 refine⟨(Ro.refl d).sync,fun b=>?_,?_,?_⟩
 ·rcases Wl.gK h b.off with⟨-,-,e⟩|⟨a,-,c⟩
  ·exact absurd b e
  ·rw[a];exact⟨rfl,c b⟩
 ·cases ho:d.off with
  |true=>rw[jD ho];exact GL rfl
  |false=>
   rcases Wl.gK h ho with⟨a,-,-⟩|⟨a,-,-⟩
   ·rw[a];exact GL rfl
   ·rw[a];exact GJ rfl
 ·cases ho:d.off with
  |true=>rw[jD ho];intro e;cases e
  |false=>
   unfold Dk.sync;rw[GQ (by rw[ho];decide)];cases hg:(Dk.bX d).off with
   |true=>rw[GU rfl];intro e;cases e
   |false=>rw[GQ (by decide)];exact fun _=>hg
theorem Op.jV{A:Nat->Prop}{n:Nat}{d:Dk.ak}{r:Dk.ak×Nat}(h:Op A n d r){f:Dk.ak->Dk.ak×Nat}(hf:r.2=0->Op A n r.1 (f r.1)):Op A n d (Rg.jV r f):=by
 by_cases h0:r.2=0
 ·rw[eo f h0];have k:=hf h0;exact⟨h.ro.trans k.ro,fun a=>k.calm (h.calm a).2,k.err,k.on⟩
 ·rw[cH f h0];exact h
theorem wz{A:Nat->Prop}{n:Nat}{d:Dk.ak}(h:d.off=false):Op A n d (d,0):=⟨.refl d,fun a=>⟨rfl,a⟩,GJ rfl,fun _=>h⟩
theorem Ce{A:Nat->Prop}{n:Nat}{d:Dk.ak}(h:d.off=true):Op A n d (d,6):=⟨.refl d,(fun a=>by have:=a.off;rw[h]at this;cases this),GL rfl,fun e=>by cases e⟩
theorem gH{n:Nat}{d:Dk.ak}(h:Wl.aX n d){i:Nat}(c:i<n):Dk.read d (i:Int)=if d.off then([],6)else(Dk.sv d i,0):=by
 have b:=h.sz;unfold Dk.read;by_cases a:d.off=true
 ·rw[GU a,GU a]
 ·rw[GQ a,GQ a,GQ (by unfold Dk.bad;omega),Ic];rfl
theorem nh{n:Nat}{d:Dk.ak}(h:Wl.aX n d)(a:d.off=false){i:Nat}(b:i<n):Dk.read d (i:Int)=(Dk.sv d i,0):=by rw[gH h b,a];rfl
theorem gQ{d:Dk.ak}{i:Nat}(h:QS d i):Dk.sv d i=lv d i:=by
 unfold Dk.sv;cases hw:d.waits.getD i none with
 |none=>rfl
 |some x=>exact h x hw
theorem l8{n:Nat}{d:Dk.ak}(h:Wl.aX n d){i:Nat}(a:i<n){b:List Nat}(c:Dk.gi b):
 (∀k,lv (Dk.write d (i:Int) b).1 k=lv d k)/\(∀k,wv (Dk.write d (i:Int) b).1 k=wv d k\/(k=i/\wv (Dk.write d (i:Int) b).1 k=some b))/\
 ((Dk.write d (i:Int) b).2=0->∀k,wv (Dk.write d (i:Int) b).1 k=if k=i then some b else wv d k):=by
 cases ho:d.off with
 |true=>rw[iR ho];exact⟨fun _=>rfl,fun _=>GJ rfl,fun e=>by cases e⟩
 |false=>
  rw[(Wl.dU h ho a c).1];obtain⟨g,f,-,-⟩:=Dk.eb (Dk.put d i b);have hw:∀k,wv (Dk.bX (Dk.put d i b)) k=if k=i then some b else wv d k:=fun k=>by
   unfold wv;rw[f,Wl.gG (by rw[h.ok.w,h.sz];exact a)];by_cases e:i=k
   ·rw[GU e,GU e.symm]
   ·rw[GQ e,GQ (H4 e)]
  refine⟨fun k=>by unfold lv;rw[g];rfl,fun k=>?_,fun _=>hw⟩;by_cases e:k=i
  ·exact GL ⟨e,by rw[hw k,GU e]⟩
  ·exact GJ (by rw[hw k,GQ e])
theorem ll{n:Nat}{d:Dk.ak}(h:Wl.aX n d):
 ((Dk.sync d).2=0->∀k,k<n->lv (Dk.sync d).1 k=(wv d k).getD (lv d k)/\wv (Dk.sync d).1 k=none)/\
 ((Dk.sync d).2≠0->∀k,lv (Dk.sync d).1 k=lv d k/\wv (Dk.sync d).1 k=wv d k):=by
 cases ho:d.off with
 |true=>rw[jD ho];exact⟨(fun e=>by cases e),fun _ _=>⟨rfl,rfl⟩⟩
 |false=>
  obtain⟨b,a,-,-⟩:=Dk.eb d;rcases Wl.gK h ho with⟨e,-,-⟩|⟨e,-,-⟩
  ·rw[e];exact⟨(fun e=>by cases e),fun _ k=>⟨by unfold lv;rw[b],by unfold wv;rw[a]⟩⟩
  ·rw[e];refine⟨fun _ k c=>⟨?_,Wl.gy _ _⟩,fun e=>absurd rfl e⟩;show(Dk.last (Dk.bX d)).aL.getD k []=_;rw[Dk.dX (Dk.lF h.ok) (by rw[Dk.mq,h.sz];exact c),b,a];rfl
theorem kq{n:Nat}{d:Dk.ak}(h:Wl.aX n d)(a:List Nat){k:Nat}(b:k<n):
 wv (Dk.aQ d a) k=none/\((wv d k=none->lv (Dk.aQ d a) k=lv d k)/\∀x,wv d k=some x->∃p,lv (Dk.aQ d a) k=Dk.pick p (lv d k) x):=by
 refine⟨Wl.gy _ _,?_⟩;have c:=Dk.jQ h.ok a (i:=k) (by rw[h.sz];exact b);unfold lv wv;rw[c];refine⟨fun e=>by rw[e],fun x e=>⟨_,by rw[e]⟩⟩
theorem eM{n:Nat}{d:Dk.ak}(h:Wl.aX n d)(a:List Nat){k:Nat}(c:k<n)(b:QS d k):lv (Dk.aQ d a) k=lv d k:=by
 obtain⟨-,g,f⟩:=kq h a c;cases hw:wv d k with
 |none=>exact g hw
 |some x=>
  obtain⟨p,e⟩:=f x hw;rw[e,b x hw,Wl.j7]
theorem kK{n:Nat}{d:Dk.ak}(h:Wl.aX n d)(h0:(Dk.sync d).2=0){k:Nat}(b:k<n)(a:QS d k):lv (Dk.sync d).1 k=lv d k/\wv (Dk.sync d).1 k=none:=by
 obtain⟨e,c⟩:=(ll h).1 h0 k b;refine⟨?_,c⟩;rw[e];cases hw:wv d k with
 |none=>rfl
 |some x=>exact a x hw
theorem mm{A:Nat->Prop}{n:Nat}:∀(L:List (List Nat)){d:Dk.ak}{p:Nat},Wl.aX n d->d.off=false->(∀s∈L,Dk.gi s)->p+L.length<=n->(∀j,j<L.length->A (p+j))->Op A n d (Dk.jc d p L)
 | [],d,p,_,ho,_,_,_=>wz ho
 |b::r,d,p,h,_,hs,hp,hA=>by
  simp only[G2]at hp;have a:Op A n d (Dk.write d (p:Int) b):=iQ h (hA 0 (by simp)) (by omega) (hs b (Hr ..));have c:=a.jV (f:=fun e=>Dk.jc e (p+1) r) fun h0=>mm r (a.ro.cy h) (a.on h0) (fun s hm=>hs s (Hx _ hm)) (by omega) fun j g=>by
   have:=hA (j+1) (by simp;omega);rw[show p+1+j=p+(j+1)by omega];exact this
  exact c
theorem qM{n:Nat}:∀(L:List (List Nat)){d:Dk.ak}{p:Nat},Wl.aX n d->(∀s∈L,Dk.gi s)->p+L.length<=n->
 (∀k,lv (Dk.jc d p L).1 k=lv d k)/\(∀k,wv (Dk.jc d p L).1 k=wv d k\/(p<=k/\k<p+L.length/\wv (Dk.jc d p L).1 k=some (L.getD (k-p) [])))/\
 ((Dk.jc d p L).2=0->∀k,wv (Dk.jc d p L).1 k=if p<=k/\k<p+L.length then some (L.getD (k-p) [])else wv d k)
 | [],d,p,_,_,_=>⟨fun _=>rfl,fun _=>GJ rfl,fun _ k=>by rw[GQ (by simp)];rfl⟩
 |b::r,d,p,h,hs,hp=>by
  simp only[G2]at hp;have c:=hs b (Hr ..);obtain⟨w1,w2,l⟩:=l8 h (i:=p) (by omega) c;have o:=((Ro.refl d).write (A:=fun _=>True) (n:=n) (i:=p) trivial (by omega) c).cy h;show(∀k,lv (jV (Dk.write d (p:Int) b) fun e=>Dk.jc e (p+1) r).1 k=lv d k)/\(∀k,wv (jV (Dk.write d (p:Int) b) fun e=>Dk.jc e (p+1) r).1 k=wv d k\/(p<=k/\k<p+(b::r).length/\wv (jV (Dk.write d (p:Int) b) fun e=>Dk.jc e (p+1) r).1 k=some ((b::r).getD (k-p) [])))/\
   ((jV (Dk.write d (p:Int) b) fun e=>Dk.jc e (p+1) r).2=0->∀k,wv (jV (Dk.write d (p:Int) b) fun e=>Dk.jc e (p+1) r).1 k=if p<=k/\k<p+(b::r).length then some ((b::r).getD (k-p) [])else wv d k)
  by_cases h0:(Dk.write d (p:Int) b).2=0
  ·rw[eo _ h0];obtain⟨r1,r2,m⟩:=qM r (p:=p+1) o (fun s hm=>hs s (Hx _ hm)) (by omega);have hw:=l h0;refine⟨fun k=>(r1 k).trans (w1 k),fun k=>?_,fun e k=>?_⟩
   ·rcases r2 k with e|⟨j,g,q⟩
    ·rw[e,hw k];by_cases a:k=p
     ·refine GL ⟨by omega,by simp;omega,?_⟩;rw[GU a,a,Nat.sub_self];rfl
     ·exact GJ (GQ a)
    ·refine GL ⟨by omega,by simp;omega,?_⟩;rw[q,show k-p=(k-(p+1))+1 by omega];rfl
   ·rw[m e k];by_cases f:p+1<=k/\k<p+1+r.length
    ·rw[GU f,GU (by simp;omega),show k-p=(k-(p+1))+1 by omega];rfl
    ·rw[GQ f,hw k];by_cases a:k=p
     ·rw[GU a,GU (by simp;omega),a,Nat.sub_self];rfl
     ·rw[GQ a,GQ (by simp;omega)]
  ·rw[cH _ h0];refine⟨w1,fun k=>?_,fun e=>absurd e h0⟩;rcases w2 k with e|⟨j,g⟩
   ·exact GJ e
   ·refine GL ⟨by omega,by simp;omega,?_⟩;rw[g,j,Nat.sub_self];rfl
theorem lD{A:Nat->Prop}{n:Nat}:∀(k:Nat){d:Dk.ak}{p:Nat},Wl.aX n d->0<k->p+k<=n->(∀j,j<k->A (p+j))->Op A n d (bL d p k)
 |0,_,_,_,h,_,_=>absurd h (Jc 0)
 |k+1,d,p,h,_,hp,hA=>by
  unfold bL;cases ho:d.off with
  |true=>
   rw[gH h (by omega),GU ho];exact Ce ho
  |false=>
   rw[nh h ho (by omega)];dsimp only;rw[GQ (show¬((0:Nat)≠0)by decide)];have a:∀{e:Dk.ak},Wl.aX n e->e.off=false->Op A n e (bL e (p+1) k):=fun{e}he b=>by
    rcases IB k with c|c
    ·subst c;exact wz b
    ·exact(lD k he c (by omega) fun j g=>by
      have:=hA (j+1) (by omega);rw[show p+1+j=p+(j+1)by omega];exact this)
   split
   ·have f:Op A n d (Dk.write d (p:Int) Dk.blank):=iQ h (hA 0 (by omega)) (by omega) Dk.cP;exact f.jV fun h0=>a (f.ro.cy h) (f.on h0)
   ·exact a h ho
theorem kr{n:Nat}:∀(k:Nat){d:Dk.ak}{p:Nat},Wl.aX n d->p+k<=n->(∀j,j<k->QS d (p+j))->
 (∀i,lv (bL d p k).1 i=lv d i)/\∀i,wv (bL d p k).1 i=wv d i\/(p<=i/\i<p+k/\wv (bL d p k).1 i=some (lv d i))
 |0,_,_,_,_,_=>⟨fun _=>rfl,fun _=>GJ rfl⟩
 |k+1,d,p,h,hp,hq=>by
  unfold bL;cases ho:d.off with
  |true=>
   rw[gH h (by omega),GU ho];exact⟨fun _=>rfl,fun _=>GJ rfl⟩
  |false=>
   rw[nh h ho (by omega)];dsimp only;rw[GQ (show¬((0:Nat)≠0)by decide)];split
   ·next b=>
    have b:Dk.sv d p=Dk.blank:=b;have a:=hq 0 (by omega);rw[Ia]at a;rw[gQ a]at b;obtain⟨w1,w2,o⟩:=l8 h (i:=p) (by omega) Dk.cP;by_cases h0:(Dk.write d (p:Int) Dk.blank).2=0
    ·rw[eo _ h0];have r:=((Ro.refl d).write (A:=fun _=>True) (n:=n) (i:=p) trivial (by omega) Dk.cP).cy h;have hw:=o h0;obtain⟨r1,r2⟩:=kr k (p:=p+1) r (by omega) fun j q x m=>by
      rw[hw,GQ (by omega)]at m;rw[w1];exact hq (j+1) (by omega) x (by rw[<-m];congr 1;omega) |>.trans (by congr 1;omega)
     refine⟨fun i=>(r1 i).trans (w1 i),fun i=>?_⟩;rcases r2 i with e|⟨l,g,f⟩
     ·rw[e,hw i];by_cases c:i=p
      ·refine GL ⟨by omega,by omega,?_⟩;rw[GU c,c,b]
      ·exact GJ (GQ c)
     ·exact GL ⟨by omega,by omega,by rw[f,w1]⟩
    ·rw[cH _ h0];refine⟨w1,fun i=>?_⟩;rcases w2 i with e|⟨l,g⟩
     ·exact GJ e
     ·exact GL ⟨by omega,by omega,by rw[g,l,b]⟩
   ·obtain⟨r1,r2⟩:=kr k (p:=p+1) h (by omega) fun j q=>by
     have:=hq (j+1) (by omega);rw[show p+1+j=p+(j+1)by omega];exact this
    refine⟨r1,fun i=>?_⟩;rcases r2 i with e|⟨l,g,f⟩
    ·exact GJ e
    ·exact GL ⟨by omega,by omega,f⟩
end Go.Proofs.YtbpodmallknhfaaGreat.Rg
namespace Go.Proofs.YtbpodmallknhfaaGreat.Rg
open Go.Proofs.YtbpodmallknhfaaGreat
structure il(n S b N:Nat):Prop where
 one:1<=N
 spare:S+5<=n
 base:b+4*N<=n
 apart:S+5<=b\/b+4*N<=S
def Has(S b N i:Nat):Prop:=(S<=i/\i<S+5)\/(b<=i/\i<b+4*N)
theorem il.has{n S b N i:Nat}(h:il n S b N)(a:Has S b N i):i<n:=by
 have d:=h.spare;have c:=h.base;rcases a with a|a<;>omega
def sp(d:Dk.ak)(S:Nat):List Nat:=lv d S++(lv d (S+1)++(lv d (S+2)++(lv d (S+3)++lv d (S+4))))
def hm(d:Dk.ak)(p:Nat):List Nat:=lv d p++(lv d (p+1)++(lv d (p+2)++lv d (p+3)))
def Home(d:Dk.ak)(p:Nat)(x:Po.Pg):Prop:=Pg.cJ (hm d p)=0/\x=(Pg.cG (hm d p),Pg.cY (hm d p))
def BA(d:Dk.ak)(S N:Nat):Prop:=∀n x,Whole (sp d S) n x->¬n<N
theorem im{d e:Dk.ak}{S:Nat}(h:∀j,j<5->lv e (S+j)=lv d (S+j)):sp e S=sp d S:=by
 unfold sp;have h0:=h 0 (by decide);rw[Ia]at h0;rw[h0,h 1 (by decide),h 2 (by decide),h 3 (by decide),h 4 (by decide)]
theorem EK{d e:Dk.ak}{p:Nat}(h:∀j,j<4->lv e (p+j)=lv d (p+j)):hm e p=hm d p:=by
 unfold hm;have h0:=h 0 (by decide);rw[Ia]at h0;rw[h0,h 1 (by decide),h 2 (by decide),h 3 (by decide)]
theorem Home.eq{d e:Dk.ak}{p:Nat}{x:Po.Pg}(h:Home d p x)(k:∀j,j<4->lv e (p+j)=lv d (p+j)):Home e p x:=by
 unfold Home at*
 rw[EK k];exact h
theorem yb{d:Dk.ak}{p:Nat}{y:Po.Pg}(a:Po.cX y)(h:hm d p=Pg.form y.1 y.2):Home d p y:=by
 unfold Home;rw[h,Pg.jh a.2.2 a.2.1,Pg.ot a.2.2 a.2.1 a.1,Pg.ou a.2.2 a.2.1];exact⟨rfl,rfl⟩
theorem BA.eq{d e:Dk.ak}{S N:Nat}(h:BA d S N)(k:sp e S=sp d S):BA e S N:=by
 unfold BA at*
 rw[k];exact h
theorem gY{n:Nat}{d:Dk.ak}(h:Wl.aX n d){i:Nat}(a:i<n):(lv d i).length=128:=Wl.qq h.ok (by rw[h.sz];exact a)
theorem j3{n S:Nat}{d:Dk.ak}(h:Wl.aX n d)(a:S+5<=n):(sp d S).length=640:=by
 unfold sp;simp only[GI,gY h (show S<n by omega),gY h (show S+1<n by omega),gY h (show S+2<n by omega),gY h (show S+3<n by omega),gY h (show S+4<n by omega)]
theorem ey{a c:List Nat}(b:a.length=128)(i:Nat):part 64 (a++c) i=if i<2 then part 64 a i else part 64 c (i-2):=by
 split
 ·next h=>exact oo (by omega)
 ·next h=>
  unfold part;rw[List.drop_append,b,Jb (by omega),Hg,show 64*i-128=64*(i-2)by omega]
theorem lq{n S:Nat}{d:Dk.ak}(h:Wl.aX n d)(g:S+5<=n){j k:Nat}(f:j<5)(e:k<2):part 64 (sp d S) (2*j+k)=part 64 (lv d (S+j)) k:=by
 have c:=gY h (show S<n by omega);have l1:=gY h (show S+1<n by omega);have a:=gY h (show S+2<n by omega);have b:=gY h (show S+3<n by omega);unfold sp;rw[ey c];obtain rfl|rfl|rfl|rfl|rfl:j=0\/j=1\/j=2\/j=3\/j=4:=by omega
 ·rw[GU (by omega)];congr 1;omega
 ·rw[GQ (by omega),ey l1,GU (by omega)];congr 1;omega
 ·rw[GQ (by omega),ey l1,GQ (by omega),ey a,GU (by omega)];congr 1;omega
 ·rw[GQ (by omega),ey l1,GQ (by omega),ey a,GQ (by omega),ey b,GU (by omega)];congr 1;omega
 ·rw[GQ (by omega),ey l1,GQ (by omega),ey a,GQ (by omega),ey b,GQ (by omega)];congr 1;omega
theorem xN(l:List Nat){j k:Nat}(a:k<2):part 64 (part 128 l j) k=part 64 l (2*j+k):=by
 unfold part;rw[List.drop_take,Jm,List.drop_drop,show 128*j+64*k=64*(2*j+k)by omega];congr 1;omega
theorem qh{a b:List Nat}(e:a.length=128)(d:b.length=128)(p:Nat){k:Nat}(c:k<2):part 64 (Dk.pick p a b) k=part 64 a k\/part 64 (Dk.pick p a b) k=part 64 b k:=Wl.rE e d p c
theorem zN{d:Dk.ak}{S:Nat}{nb:List Nat}(hl:nb.length=640)(h:∀j,j<5->lv d (S+j)=part 128 nb j):sp d S=nb:=by
 have e:=gZ 128 nb 5;rw[Hm (by omega)]at e;have h0:=h 0 (by decide);rw[Ia]at h0;unfold sp;rw[h0,h 1 (by decide),h 2 (by decide),h 3 (by decide),h 4 (by decide)];conv=>rhs;rw[<-e]
 rw[show List.range 5=[0,1,2,3,4]from rfl];simp only[Ha,IC,Ip]
theorem AX{d:Dk.ak}{p:Nat}{fm:List Nat}(hl:fm.length=512)(h:∀j,j<4->lv d (p+j)=(Dk.fX fm).getD j []):hm d p=fm:=by
 have h0:=h 0 (by decide);rw[Ia]at h0;unfold hm;rw[h0,h 1 (by decide),h 2 (by decide),h 3 (by decide)];exact Dk.xw hl
structure pS(S b N:Nat)(d:Dk.ak)(f:Nat->Po.Pg):Prop where
 idle:∀i,Has S b N i->wv d i=none
 no:BA d S N
 home:∀k,k<N->Home d (b+4*k) (f k)
structure uc(S b N:Nat)(d:Dk.ak)(c:Nat->Po.Pg->Prop):Prop where
 idle:∀i,Has S b N i->wv d i=none
 cg:∃f:Nat->Po.Pg,(∀k,Po.cX (f k))/\(∀k,k<N->c k (f k))/\((BA d S N/\∀k,k<N->Home d (b+4*k) (f k))\/(∃m,m<N/\Whole (sp d S) m (f m)/\∀k,k<N->k≠m->Home d (b+4*k) (f k)))
theorem uc.mono{S b N:Nat}{d:Dk.ak}{c a:Nat->Po.Pg->Prop}(h:uc S b N d c)(g:∀k x,c k x->a k x):uc S b N d a:=by
 obtain⟨f,l,j,i⟩:=h.cg;exact⟨h.idle,f,l,fun k e=>g k _ (j k e),i⟩
section
variable{n S b N:Nat}{d:Dk.ak}{f:Nat->Po.Pg}
theorem fC(h:Wl.aX n d)(e:il n S b N)(a:List Nat):∀i,Has S b N i->wv (Dk.aQ d a) i=none:=fun i c=>(kq h a (e.has c)).1
theorem cK{k j:Nat}(a:k<N)(c:j<4):Has S b N (b+4*k+j):=GL (by omega)
theorem dE{j:Nat}(a:j<5):Has S b N (S+j):=GJ (by omega)
theorem pS.quiet(h:pS S b N d f){i:Nat}(c:Has S b N i):QS d i:=fun x a=>by rw[h.idle i c]at a;cases a
structure En(S b N:Nat)(nb:List Nat)(d:Dk.ak)(f:Nat->Po.Pg):Prop where
 no:BA d S N
 spare:∀j,j<5->∀x,wv d (S+j)=some x->x=lv d (S+j)\/x=part 128 nb j
 quiet:∀k,k<N->∀j,j<4->QS d (b+4*k+j)
 home:∀k,k<N->Home d (b+4*k) (f k)
structure Em(S b N m:Nat)(y:Po.Pg)(d:Dk.ak)(f:Nat->Po.Pg):Prop where
 whole:Whole (sp d S) m y
 spare:∀j,j<5->QS d (S+j)
 quiet:∀k,k<N->k≠m->∀j,j<4->QS d (b+4*k+j)
 home:∀k,k<N->k≠m->Home d (b+4*k) (f k)
structure Fo(S b N m:Nat)(y:Po.Pg)(d:Dk.ak)(g:Nat->Po.Pg):Prop where
 whole:Whole (sp d S) m y
 spare:∀j,j<5->∀x,wv d (S+j)=some x->x=lv d (S+j)\/(j=0/\x=Dk.blank)
 quiet:∀k,k<N->∀j,j<4->QS d (b+4*k+j)
 home:∀k,k<N->Home d (b+4*k) (g k)
theorem En.aQ{m t:Nat}{y:Po.Pg}(l:Wl.aX n d)(A:il n S b N)(h:En S b N (laid (Pg.form y.1 y.2) (tag m t)) d f)(hf:∀k,Po.cX (f k))(B:Po.cX y)(hm:m<N)(E:m<65536)(D:t∉rG (sp d S) 10)(a:List Nat):
 uc S b N (Dk.aQ d a) fun k x=>x=f k\/(k=m/\x=y):=by
 have z:=A.spare;have I:=A.base;have v:(Pg.form y.1 y.2).length=512:=by rw[Pg.bP,B.2.1]
 have s:=eL (t:=tag m t) (b:=Pg.form y.1 y.2) (bZ m t) v;have w:Wl.aX n (Dk.aQ d a):=⟨Dk.ox l.ok a,(l.aQ a).sz,(l.aQ a).bD⟩
 have g:∀k,k<N->Home (Dk.aQ d a) (b+4*k) (f k):=fun k c=>(h.home k c).eq fun j u=>eM l a (by omega) (h.quiet k c j u);have r:F8 (sp d S) (laid (Pg.form y.1 y.2) (tag m t)) (sp (Dk.aQ d a) S):=by
  refine⟨j3 w z,fun i H=>?_⟩;obtain⟨j,k,u,c,rfl⟩:∃j k,j<5/\k<2/\i=2*j+k:=⟨i/2,i%2,by omega,by omega,by omega⟩
  rw[lq w z u c,lq l z u c];obtain⟨-,c1,c2⟩:=kq l a (k:=S+j) (by omega);cases hw:wv d (S+j)with
  |none=>rw[c1 hw];exact GJ rfl
  |some x=>
   obtain⟨p,e⟩:=c2 x hw;rw[e];rcases h.spare j u x hw with rfl|rfl
   ·rw[Wl.j7];exact GJ rfl
   ·rw[<-xN _ c];exact qh (gY l (by omega)) (eI (by rw[s];omega)) p c
 by_cases o:BA (Dk.aQ d a) S N
 ·exact⟨fC l A a,f,hf,fun k _=>GJ rfl,GJ ⟨o,g⟩⟩
 ·obtain⟨k,x,hw,c⟩:∃k x,Whole (sp (Dk.aQ d a) S) k x/\k<N:=by
   unfold BA at o;simp only[Classical.not_forall,Classical.not_not]at o;obtain⟨k,x,G,F⟩:=o;exact⟨k,x,G,F⟩
  rcases AJ (j3 l z) v D r hw.1 with e|e
  ·rw[e]at hw;exact absurd c (h.no k x hw)
  ·have q:=nC (t:=t) B E;rw[<-e]at q;refine⟨fC l A a,Po.cI f m y,fun k=>?_,fun k _=>?_,GL ⟨m,hm,?_,fun k c C=>?_⟩⟩
   ·unfold Po.cI;split
    ·exact B
    ·exact hf k
   ·unfold Po.cI;split
    ·next e=>exact GL ⟨e,rfl⟩
    ·exact GJ rfl
   ·rw[Po.cC];exact q
   ·rw[Po.dQ f y C];exact g k c
theorem Em.aQ{m:Nat}{y:Po.Pg}(g:Wl.aX n d)(i:il n S b N)(h:Em S b N m y d f)(hf:∀k,Po.cX (f k))(o:Po.cX y)(hm:m<N)(c:List Nat):
 uc S b N (Dk.aQ d c) fun k x=>x=Po.cI f m y k:=by
 have p:=i.spare;have q:=i.base;refine⟨fC g i c,Po.cI f m y,fun k=>?_,fun k _=>rfl,GL ⟨m,hm,?_,fun k l a=>?_⟩⟩
 ·unfold Po.cI;split
  ·exact o
  ·exact hf k
 ·rw[Po.cC,im fun j e=>eM g c (by omega) (h.spare j e)];exact h.whole
 ·rw[Po.dQ f y a];exact(h.home k l a).eq fun j e=>eM g c (by omega) (h.quiet k l a j e)
theorem Fo.aQ{m:Nat}{y:Po.Pg}{g:Nat->Po.Pg}(l:Wl.aX n d)(u:il n S b N)(h:Fo S b N m y d g)(A:∀k,Po.cX (g k))(hm:m<N)(v:g m=y)(a:List Nat):
 uc S b N (Dk.aQ d a) fun k x=>x=g k:=by
 have t:=u.spare;have F:=u.base;have s:Wl.aX n (Dk.aQ d a):=⟨Dk.ox l.ok a,(l.aQ a).sz,(l.aQ a).bD⟩
 have f:∀k,k<N->Home (Dk.aQ d a) (b+4*k) (g k):=fun k c=>(h.home k c).eq fun j r=>eM l a (by omega) (h.quiet k c j r);by_cases o:BA (Dk.aQ d a) S N
 ·exact⟨fC l u a,g,A,fun k _=>rfl,GJ ⟨o,f⟩⟩
 ·obtain⟨k,x,hw,c⟩:∃k x,Whole (sp (Dk.aQ d a) S) k x/\k<N:=by
   unfold BA at o;simp only[Classical.not_forall,Classical.not_not]at o;obtain⟨k,x,C,B⟩:=o;exact⟨k,x,C,B⟩
  have q:∀j k,j<5->k<2->part 64 (lv (Dk.aQ d a) (S+j)) k=part 64 (lv d (S+j)) k:=fun j k r c=>by
   obtain⟨-,c1,c2⟩:=kq l a (k:=S+j) (by omega);cases hwv:wv d (S+j)with
   |none=>rw[c1 hwv]
   |some x=>
    obtain⟨p,e⟩:=c2 x hwv;rcases h.spare j r x hwv with rfl|⟨rfl,rfl⟩
    ·rw[e,Wl.j7]
    ·rcases qh (gY l (i:=S+0) (by omega)) (show Dk.blank.length=128 by unfold Dk.blank;rw[G9]) p c with w|w
     ·rw[e];exact w
     ·exfalso;have D:part 64 (sp (Dk.aQ d a) S) k=part 64 Dk.blank k:=by
       have:=lq s t (j:=0) (k:=k) (by decide) c;rw[Nat.mul_zero,H8]at this;rw[this,e,w]
      have z:=hw.1 k (by omega);rw[D]at z;have h0:((part 64 Dk.blank k).take 12).getD 0 0=0:=by
       obtain rfl|rfl:k=0\/k=1:=by omega
       ·rfl
       ·rfl
      rw[z]at h0;exact absurd h0 (by show¬(112:Nat)=0;decide)
  have e:sp (Dk.aQ d a) S=sp d S:=my (j3 s t) (j3 l t) fun i E=>by
   obtain⟨j,k,r,c,rfl⟩:∃j k,j<5/\k<2/\i=2*j+k:=⟨i/2,i%2,by omega,by omega,by omega⟩
   rw[lq s t r c,lq l t r c,q j k r c]
  exact⟨fC l u a,g,A,fun k _=>rfl,GL ⟨m,hm,by rw[e,v];exact h.whole,fun k c _=>f k c⟩⟩
end
section
variable{n S b N:Nat}{f:Nat->Po.Pg}
theorem sy{m:Nat}{y:Po.Pg}{d:Dk.ak}(F:Wl.aX n d)(v:il n S b N)(h:Em S b N m y d f)(hf:∀k,Po.cX (f k))(B:Po.cX y)(hm:m<N):
 ((dB d S (b+4*m) (Pg.form y.1 y.2)).2=0->pS S b N (dB d S (b+4*m) (Pg.form y.1 y.2)).1 (Po.cI f m y))/\
 ((dB d S (b+4*m) (Pg.form y.1 y.2)).2≠0->∀t,uc S b N (Dk.aQ (dB d S (b+4*m) (Pg.form y.1 y.2)).1 t) fun k x=>x=Po.cI f m y k):=by
 have hS:=v.spare;have hB:=v.base;have ab:=v.apart;have E:(Pg.form y.1 y.2).length=512:=by rw[Pg.bP,B.2.1]
 have U:∀k,Po.cX (Po.cI f m y k):=fun k=>by
  unfold Po.cI;split
  ·exact B
  ·exact hf k
 have w:=Dk.nQ E (Pg.iA (n:=y.1) B.2.2);have aa:=Dk.ir (Pg.form y.1 y.2);unfold dB;obtain⟨w1,w2,Y⟩:=qM (Dk.fX (Pg.form y.1 y.2)) (d:=d) (p:=b+4*m) F w (by omega);have s:Wl.aX n (Dk.jc d (b+4*m) (Dk.fX (Pg.form y.1 y.2))).1:=by
  rcases ID d.off with M|M
  ·have:Dk.jc d (b+4*m) (Dk.fX (Pg.form y.1 y.2))=(d,6):=by
    unfold Dk.fX Dk.jc;rw[iR M];exact GU (show(6:Nat)≠0 by decide)
   rw[this];exact F
  ·exact(mm (A:=fun _=>True) (Dk.fX (Pg.form y.1 y.2)) F M w (by omega) fun _ _=>trivial).ro.cy F
 generalize Dk.jc d (b+4*m) (Dk.fX (Pg.form y.1 y.2))=r1 at*
 have l:Em S b N m y r1.1 f:=by
  refine⟨by rw[im fun j _=>w1 _];exact h.whole,fun j g x a=>?_,fun k c o j g x a=>?_,fun k c o=>(h.home k c o).eq fun j _=>w1 _⟩
  ·rw[w1];rcases w2 (S+j)with e|⟨R,J,-⟩
   ·rw[e]at a;exact h.spare j g x a
   ·omega
  ·rw[w1];rcases w2 (b+4*k+j)with e|⟨R,J,-⟩
   ·rw[e]at a;exact h.quiet k c o j g x a
   ·omega
 by_cases I:r1.2=0
 case neg=>rw[cH _ I];exact⟨fun e=>absurd e I,fun _ t=>l.aQ s v hf B hm t⟩
 rw[eo _ I];have hw:=Y I;have u:=(ji (A:=fun _=>True) s).ro.cy s;have T:∀{k},k<n->QS r1.1 k->(Dk.sync r1.1).2=0->lv (Dk.sync r1.1).1 k=lv r1.1 k/\wv (Dk.sync r1.1).1 k=none:=fun c L h0=>kK s h0 c L;obtain⟨s1,s2⟩:=ll s;generalize Dk.sync r1.1=r2 at*
 by_cases z:r2.2=0
 case neg=>
  rw[cH _ z];have e:=s2 z;refine⟨fun e=>absurd e z,fun _ t=>Em.aQ u v ⟨by rw[im fun j _=>(e _).1];exact l.whole,fun j g x a=>?_,fun k c o j g x a=>?_,fun k c o=>(l.home k c o).eq fun j _=>(e _).1⟩ hf B hm t⟩
  ·rw[(e _).2]at a;rw[(e _).1];exact l.spare j g x a
  ·rw[(e _).2]at a;rw[(e _).1];exact l.quiet k c o j g x a
 rw[eo _ z];have J:=s1 z;have V:∀i,Has S b N i->wv r2.1 i=none:=fun i O=>(J i (v.has O)).2;have C:sp r2.1 S=sp d S:=by
  rw[im fun j g=>(T (by omega) (l.spare j g) z).1];exact im fun j _=>w1 _
 have D:∀k,k<N->Home r2.1 (b+4*k) (Po.cI f m y k):=fun k c=>by
  by_cases e:k=m
  ·subst e;rw[Po.cC];refine yb B (AX E fun j g=>?_);rw[(J (b+4*k+j) (by omega)).1,hw,GU (by omega),show b+4*k+j-(b+4*k)=j by omega];rfl
  ·rw[Po.dQ f y e];exact(l.home k c e).eq fun j g=>(T (by omega) (l.quiet k c e j g) z).1
 obtain⟨b1,b2,b3⟩:=l8 u (i:=S) (by omega) Dk.cP;have r:=(iQ (A:=fun _=>True) u (i:=S) trivial (by omega) Dk.cP).ro.cy u;generalize Dk.write r2.1 (S:Int) Dk.blank=r3 at*
 have q:Fo S b N m y r3.1 (Po.cI f m y):=by
  refine⟨by rw[im fun j _=>b1 _,C];exact h.whole,fun j g x a=>?_,fun k c j g x a=>?_,fun k c=>(D k c).eq fun j _=>b1 _⟩
  ·rcases b2 (S+j)with e|⟨R,X⟩
   ·rw[e,V _ (dE g)]at a;cases a
   ·rw[X]at a;cases a;exact GL ⟨by omega,rfl⟩
  ·rcases b2 (b+4*k+j)with e|⟨R,X⟩
   ·rw[e,V _ (cK c g)]at a;cases a
   ·omega
 by_cases H:r3.2=0
 case neg=>rw[cH _ H];exact⟨fun e=>absurd e H,fun _ t=>q.aQ r v U hm (Po.cC f m y) t⟩
 rw[eo _ H];have hb:=b3 H;have P:=(ji (A:=fun _=>True) r).ro.cy r;have Z:∀{k},k<n->QS r3.1 k->(Dk.sync r3.1).2=0->lv (Dk.sync r3.1).1 k=lv r3.1 k/\wv (Dk.sync r3.1).1 k=none:=fun c L h0=>kK r h0 c L;obtain⟨t1,t2⟩:=ll r;generalize Dk.sync r3.1=r4 at*
 refine⟨fun G=>?_,fun G t=>?_⟩
 ·have W:=t1 G;refine⟨fun i O=>(W i (v.has O)).2,fun k x K=>?_,fun k c=>(q.home k c).eq fun j g=>(Z (by omega) (q.quiet k c j g) G).1⟩;exfalso;have e5:lv r4.1 S=Dk.blank:=by rw[(W S (by omega)).1,hb,GU rfl];rfl
  have Q:=(nJ K.1).1;unfold sp at Q;rw[e5]at Q;exact absurd Q (by show¬(0:Nat)=112;decide)
 ·have e:=t2 G;refine Fo.aQ (y:=y) P v ⟨by rw[im fun j _=>(e _).1];exact q.whole,fun j g x a=>?_,fun k c j g x a=>?_,fun k c=>(q.home k c).eq fun j _=>(e _).1⟩ U hm (Po.cC f m y) t
  ·rw[(e _).2]at a;rw[(e _).1];exact q.spare j g x a
  ·rw[(e _).2]at a;rw[(e _).1];exact q.quiet k c j g x a
end
end Go.Proofs.YtbpodmallknhfaaGreat.Rg
