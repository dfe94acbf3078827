/- Parts of a proof. Conditions: as each row says. -/
import Derived.Test.YtbpodmallknhfaaGreatPl03
import Derived.Test.YtbpodmallknhfaaGreatPl01
import Derived.Test.YtbpodmallknhfaaGreatPl07
import Derived.Test.YtbpodmallknhfaaGreatPl09
import Derived.Test.YtbpodmallknhfaaGreatPl10
import Derived.Test.YtbpodmallknhfaaGreatPl14
import Derived.WideShapes
import Derived.BigQuiet
import Derived.Deep.QuietTactic
import Derived.StillTailTactics
import Derived.IntWalk
import Derived.Test.YtbpodmallknhfaaGreatRows
import Derived.WalkKit
import Derived.WalkSpells
import Derived.WalkLawsBesides
import Derived.Lib.Hide
import Derived.Deep.WholeRow
import Derived.Laws.AppendOwnNone
import Derived.Laws.MakeOwn
import Derived.Laws.OwnMore
import Derived.OneCell
import Derived.OwnWalk
import Derived.Below
import Derived.KernelRfl
namespace Go.Proofs.YtbpodmallknhfaaGreat.Pg
open Go.Proofs.YtbpodmallknhfaaGreat.aH
theorem two32:(2:Nat)^32=4294967296:=by decide
def aY(n:Nat):List Nat:=List.replicate n 0
def rest(n:Nat)(l:List Nat):List Nat:=le 8 n++l
def form(n:Nat)(l:List Nat):List Nat:=le 4 (dK.more 0 (rest n l))++rest n l
def cJ(b:List Nat):Nat:=if b.length≠512 then 2 else if b=aY 512 then 0 else if num (b.take 4)≠dK.more 0 (b.drop 4)then 14 else 0
def cG(b:List Nat):Nat:=if cJ b=0 then num ((b.drop 4).take 8)else 0
def cY(b:List Nat):List Nat:=if cJ b=0 then b.drop 12 else []
theorem bQ(n:Nat):(aY n).length=n:=G9
theorem jy(n:Nat):∀x∈aY n,x<256:=by
 intro x a;rw[Ik a];decide
theorem fK(n:Nat)(l:List Nat):(rest n l).length=8+l.length:=by unfold rest;rw[GI,al]
theorem bP(n:Nat)(l:List Nat):(form n l).length=12+l.length:=by unfold form;rw[GI,al,fK];omega
theorem ng{n:Nat}{l:List Nat}(h:∀x∈l,x<256):∀x∈rest n l,x<256:=by
 intro x a;rcases List.mem_append.1 a with a|a
 ·exact cZ _ _ x a
 ·exact h x a
theorem iA{n:Nat}{l:List Nat}(h:∀x∈l,x<256):∀x∈form n l,x<256:=by
 intro x a;rcases List.mem_append.1 a with a|a
 ·exact cZ _ _ x a
 ·exact ng h x a
theorem zp{l:List Nat}(h:∀x∈l,x<256):dK.more 0 l<4294967296:=by
 have:=dK.wB (s:=0) (by decide) h;rwa[two32]at this
theorem yh(n:Nat)(l:List Nat):(form n l).take 4=le 4 (dK.more 0 (rest n l)):=Iu (al _ _)
theorem mu(n:Nat)(l:List Nat):(form n l).drop 4=rest n l:=IF (al _ _)
theorem xy(n:Nat)(l:List Nat):(rest n l).take 8=le 8 n:=Iu (al _ _)
theorem xz(n:Nat)(l:List Nat):(rest n l).drop 8=l:=IF (al _ _)
theorem tC(b:List Nat):b.drop 12=(b.drop 4).drop 8:=by rw[List.drop_drop]
theorem jh{n:Nat}{l:List Nat}(h:∀x∈l,x<256)(hl:l.length=500):cJ (form n l)=0:=by
 unfold cJ;rw[GQ (by rw[bP,hl];decide)];split
 ·rfl
 ·rw[yh,mu,rp,IP (zp (ng h)),GQ (by simp)]
theorem ot{n:Nat}{l:List Nat}(h:∀x∈l,x<256)(hl:l.length=500)(a:n<18446744073709551616):cG (form n l)=n:=by
 unfold cG;rw[GU (jh h hl),mu,xy,rp,IP a]
theorem ou{n:Nat}{l:List Nat}(h:∀x∈l,x<256)(hl:l.length=500):cY (form n l)=l:=by
 unfold cY;rw[GU (jh h hl),tC,mu,xz]
theorem iy:cJ (aY 512)=0:=by unfold cJ;rw[GQ (by rw[bQ];decide),GU rfl]
theorem mR:cG (aY 512)=0:=by unfold cG;rw[GU iy];decide
theorem mS:cY (aY 512)=aY 500:=by unfold cY;rw[GU iy];unfold aY;rw[List.drop_replicate]
theorem tc{b:List Nat}(h:∀x∈b,x<256):∀x∈cY b,x<256:=by
 intro x a;unfold cY at a;split at a
 ·exact h x (Ht a)
 ·simp at a
theorem rn{b:List Nat}(he:cJ b=0):(cY b).length=500:=by
 have hl:b.length=512:=by
  unfold cJ at he;split at he
  ·cases he
  ·omega
 unfold cY;rw[GU he,G5,hl]
theorem qn{b:List Nat}(he:cJ b≠0):cY b=[]:=GQ he
theorem ql{b:List Nat}(he:cJ b≠0):cG b=0:=GQ he
def Bo(n:Int)(i:Nat):Nat:=((n+i*7)%256).toNat
def ck(n:Int):List Nat:=(List.range 500).map (Bo n)
theorem Bm(n:Int)(i:Nat):Bo n i<256:=by unfold Bo;omega
theorem aW(n:Int):(ck n).length=500:=by simp[ck]
theorem jU(n:Int):∀x∈ck n,x<256:=by
 intro x a;obtain⟨i,-,rfl⟩:=List.mem_map.1 a;exact Bm n i
end Go.Proofs.YtbpodmallknhfaaGreat.Pg
namespace Go.Proofs.YtbpodmallknhfaaGreat
open Go.RowKit
abbrev ed(n:Nat)(v:Value):Value:=.agg #[.int .u64 (n:Int),v]
theorem Dg{a b:List Nat}(d:∀x∈a,x<256)(c:∀x∈b,x<256)(h:a≠b):((strOfNums (a.map fun x:Nat=>(x:Int))).toList==(strOfNums (b.map fun x:Nat=>(x:Int))).toList)=false:=by
 rw[G6];intro e;rw[ByteArray.toList_eq,ByteArray.toList_eq]at e;exact h (str_inj d c (Go.WideShapes.bytes_inj e))
theorem yE(w:World)(b a:Obj):Below w.heap.size w ((w.alloc b).alloc a):=((GF _ _).alloc (GH _) _).alloc (by simp) _
def bv(x:Nat):Value:=.int .u8 (x:Int)
theorem wy{base g:Nat}{w:World}{l:List Nat}(h:w.heap[g]?=some (.cells (l.map bv).toArray 5 (0,0)))(a:base<=g)(hs:∀x∈l,x<256)(hl:l.length<=140737488355328):Own base w (.slice (some ⟨g,0,none⟩) l.length l.length) l:=
 ⟨⟨by simp[ai],GL ⟨g,l.length,(l.map bv).toArray,rfl,a,h,GH _,by unfold maxLen;omega,by simp,by simp only[Iz];rw[Hm (by simp)];rfl⟩⟩,hs,hl⟩
theorem lH(z:Value)(n:Nat):madeCells #[z] n=(List.replicate n z).toArray:=by
 apply Array.ext';rw[toList_madeCells_one]
theorem fz(n:Nat)(f:n<=65536)(W:World):(Instr.makeSlice 57 (.int .i64 (n:Int)) (.int .i64 (n:Int))).run Tryz.prog W=.ok (.slice (some ⟨W.heap.size,0,none⟩) n n) (W.alloc (.cells ((Pg.aY n).map bv).toArray 5)):=by
 obtain⟨i0,d,c,a,b⟩:=info_parts iT;have h:=run_makeSlice (P:=Tryz.prog) W 57 5 i0 _ Tryz.underlying57 d c .i64 .i64 n n (by omega) (Int.le_refl _) (by rw[a];omega) (by rw[b];omega) (by omega);rw[Ic,a,Iz]at h;rw[h];have e:madeCells #[Value.int .u8 0] n=((Pg.aY n).map bv).toArray:=by
  rw[show((Pg.aY n).map bv).toArray=(List.replicate n (Value.int .u8 0)).toArray by unfold Pg.aY;rw[List.map_replicate];rfl];exact lH _ n
 congr 3
theorem jM(n:Nat)(a:n<=65536)(W:World):Own W.heap.size (W.alloc (.cells ((Pg.aY n).map bv).toArray 5)) (.slice (some ⟨W.heap.size,0,none⟩) n n) (Pg.aY n):=by
 have h:=wy (base:=W.heap.size) (w:=W.alloc (.cells ((Pg.aY n).map bv).toArray 5)) (l:=Pg.aY n) (GM _ _) (GH _) (Pg.jy n) (by rw[Pg.bQ];omega);rwa[Pg.bQ]at h
theorem Dm{w:World}{B:Nat}{a b x y:Value}{T:TypeId}(h:w.heap[B]?=some (.cells #[a,b] T (0,0))):
 ((w.setCell ⟨B,0,none⟩ x).setCell ⟨B,1,none⟩ y).heap[B]?=some (.cells #[x,y] T (0,0))/\w.grownBy ((w.setCell ⟨B,0,none⟩ x).setCell ⟨B,1,none⟩ y) (some B):=
 ⟨nN (nO h),bg (aU _ _ _ _) (aU _ _ _ _)⟩
set_option maxHeartbeats 400000 in
set_option maxRecDepth 20000 in
theorem rb(w:World):Calls Tryz.prog 22 #[] w fun e w'=>∃v,e=.returned (ed 0 v)/\Own w.heap.size w' v (Pg.aY 500)/\Below w.heap.size w w':=by
 obtain⟨W,g⟩:∃W,W=w.alloc (.cells #[.int .u64 0,.slice none 0 0] 59):=⟨_,rfl⟩
 have b:(Instr.makeSlice 57 (.int .i64 500) (.int .i64 500)).run Tryz.prog (w.alloc (.cells #[.int .u64 0,.slice none 0 0] 59))=.ok (.slice (some ⟨(w.alloc (.cells #[.int .u64 0,.slice none 0 0] 59)).heap.size,0,none⟩) 500 500) _:=fz 500 (by decide) _;have p:=GD (jM 500 (by decide) W);have j:W.heap[w.heap.size]?=some (.cells #[.int .u64 0,.slice none 0 0] 59 (0,0)):=by rw[g];exact GM _ _
 have o:Below w.heap.size w W:=by rw[g];exact(GF _ _).alloc (GH _) _
 have k:=GN j;rw[<-g]at b;obtain⟨W1,d⟩:∃W1,W1=W.alloc (.cells ((Pg.aY 500).map bv).toArray 5):=⟨_,rfl⟩
 have c:Below W.heap.size W W1:=by rw[d];exact(GF _ _).alloc (GH _) _
 have a:W1.heap[w.heap.size]?=some (.cells #[.int .u64 0,.slice none 0 0] 59 (0,0)):=by rw[c.block _ (GN j)];exact j
 rw[<-d]at b p;obtain⟨l,f⟩:=Dm (x:=.int .u64 0) (y:=.slice (some ⟨W.heap.size,0,none⟩) 500 500) a;have i:=bj l;have h:=bp l;have q:=GD f;have n:=GD i;have m:=GD h;clear l f i h;go_enter Tryz.func22,Tryz.ntmps22;go_wp2_with fail
 rw[<-g,b];have c0:=bj a;have c1:=bp a;have f0:=ee a 0;have f1:=ee a 1;clear d b j a g;go_wp2_with fail
 have i:=n.out;have h:=m.out;refine bodyPost_ret (v:=ed 0 (.slice (some ⟨W.heap.size,0,none⟩) 500 500)) (by simp[results,Tryz.results22,go_sem,i,h]) rfl ⟨_,rfl,?_,?_⟩
 ·exact(p.out.from (Hu k)).grown q.out (GL (by simp[Value.ownBlock];omega))
 ·exact aZ (o.trans (c.mono o.size)) q.out (by have:=c.size;omega) (GH _)
def Pg.same(b:Nat)(s:List Nat)(a:Nat)(t:List Nat):Bool:=decide (b=a/\s=t)
theorem Pg.zU{b a:Nat}{s t:List Nat}(h:b≠a):Pg.same b s a t=false:=GY fun e=>h e.1
theorem Pg.xx{b a:Nat}{s t:List Nat}(h:s≠t):Pg.same b s a t=false:=GY fun e=>h e.2
theorem Pg.mc(n:Nat)(s:List Nat):Pg.same n s n s=true:=GK ⟨rfl,rfl⟩
set_option maxHeartbeats 1600000 in
set_option maxRecDepth 20000 in
theorem mP(k1 k2:Nat)(g f:Value)(s t:List Nat)(w:World)(d:aJ w g s)(c:aJ w f t):
 Calls Tryz.prog 34 #[ed k1 g,ed k2 f] w fun e w'=>e=.returned (.bool (Pg.same k1 s k2 t))/\Below w.heap.size w w':=by
 have b:=GD (yE w (.cells #[.int .u64 (k1:Int),g] 59) (.cells #[.int .u64 (k2:Int),f] 59));have m:=fq (d.below b.out);have l:=fq (c.below b.out);have a:=fun h=>Dg d.small c.small h;obtain⟨o,d1,rfl,-,-,-⟩:=d.form;obtain⟨n,d2,rfl,-,-,-⟩:=c.form;clear d c;by_cases i:k1=k2
 ·subst i;by_cases hs:s=t
  ·subst hs;rw[Pg.mc];clear a;generalize strOfNums (s.map fun x:Nat=>(x:Int))=S at*
   go_enter Tryz.func34,Tryz.ntmps34;go_wp2_with fail
   go_ret;exact⟨rfl,b.out⟩
  ·rw[Pg.xx hs];have p:=a hs;clear a;generalize strOfNums (s.map fun x:Nat=>(x:Int))=S at*
   generalize strOfNums (t.map fun x:Nat=>(x:Int))=T at*
   go_enter Tryz.func34,Tryz.ntmps34;go_wp2_with fail
   go_ret;exact⟨rfl,b.out⟩
 ·rw[Pg.zU i];have k:¬(k1:Int)=(k2:Int):=by omega
  have j:((k1:Int)==(k2:Int))=false:=by rw[G6];omega
  clear m l a;go_enter Tryz.func34,Tryz.ntmps34;go_wp2_with fail
  go_ret;exact⟨rfl,b.out⟩
theorem Pg.BQ{α:Type}(A l:List α)(k:Nat)(x:α)(b:k<A.length)(hl:k<l.length)(a:A[k]?=some x):(A.take k++l.drop k).set k x=A.take (k+1)++l.drop (k+1):=by
 rw[Jd _ _ (by simp;omega),show k-(A.take k).length=0 by simp;omega];rw[List.drop_eq_getElem_cons hl,GX,Ih b];rw[GS b]at a;simp only[GO]at a;rw[a,G3,List.singleton_append]
def Pg.dV(s base n:Int):Bool:=decide (0<=base/\0<=n/\base<=s/\n<(s-base).tdiv 4)
theorem kS{s base n:Int}(h:¬(0<=base/\0<=n/\base<=s/\n<(s-base).tdiv 4)):Pg.dV s base n=false:=GY h
abbrev Pp:=Nat×Value
def dP:Pp:=(0,undef)
def rL(x:Pp):List Value:=[.int .u64 (x.1:Int),x.2]
def cR(l:List Pp):List Value:=l.flatMap rL
theorem iJ:∀l:List Pp,(cR l).length=l.length*2
 | []=>rfl
 |h::l=>by
  have:=iJ l;simp only[cR,Ha,GI,G2]at*
  simp only[rL,G2,Hz];omega
theorem pR(a b:List Pp):cR (a++b)=cR a++cR b:=by simp[cR]
theorem ph:∀(l:List Pp)(i:Nat),i<l.length->(cR l)[i*2]?=some (.int .u64 ((l.getD i dP).1:Int))
 | [],i,h=>by simp at h
 |x::l,0,_=>by simp[cR,rL]
 |x::l,i+1,h=>by
  have:=ph l i (by simpa using h);rw[show(i+1)*2=i*2+1+1 by omega];simpa[cR,rL]using this
theorem mU:∀(l:List Pp)(i:Nat),i<l.length->(cR l)[i*2+1]?=some (l.getD i dP).2
 | [],i,h=>by simp at h
 |x::l,0,_=>by simp[cR,rL]
 |x::l,i+1,h=>by
  have:=mU l i (by simpa using h);rw[show(i+1)*2+1=i*2+1+1+1 by omega];simpa[cR,rL]using this
theorem vL(l:List Pp)(b:∀x∈l,x.2.oneCell'=true):∀u∈cR l,u.oneCell'=true:=by
 intro u hu;simp only[cR,List.mem_flatMap,rL]at hu;obtain⟨x,hm,a⟩:=hu;simp at a;rcases a with rfl|rfl
 ·rfl
 ·exact b _ hm
theorem vK(l:List Pp)(i:Nat)(h:Pp)(a:i<l.length):cR (l.set i h)=((cR l).set (i*2) (.int .u64 (h.1:Int))).set (i*2+1) h.2:=by
 induction l generalizing i with
 |nil=>simp at a
 |cons x l ih=>
  cases i with
  |zero=>simp[cR,rL]
  |succ i=>
   have:=ih i (by simpa using a);rw[show(i+1)*2=i*2+1+1 by omega];simp only[cR,GV,Ha,rL]at*
   simpa using this
structure Ea(w:World)(v:Value)(l:List Pp):Prop where
 form:∃p cap,v=.slice p l.length cap/\(l.length<=cap/\cap<=9223372036854775807)/\(p=none->cap=0)/\(0<l.length->∃b off,p=some ⟨b,off,none⟩/\∀j,j<l.length*2->w.cell? ⟨b,off+j,none⟩=(cR l)[j]?)
theorem Ea.at{w:World}{b off cap:Nat}{l:List Pp}(h:Ea w (.slice (some ⟨b,off,none⟩) l.length cap) l)(i:Nat)(e:i<l.length):
 w.cell? ⟨b,off+i*2,none⟩=some (.int .u64 ((l.getD i dP).1:Int))/\w.cell? ⟨b,off+i*2+1,none⟩=some (l.getD i dP).2:=by
 obtain⟨j,g,d,k,hz,hp⟩:=h.form;obtain⟨m,c,a,f⟩:=hp (by omega);subst a;simp only[Hc,GO,Im,Jj,Jg]at d;obtain⟨⟨rfl,rfl⟩,rfl⟩:=d;constructor
 ·rw[f (i*2) (by omega),ph l i e]
 ·rw[Nat.add_assoc,f (i*2+1) (by omega),mU l i e]
theorem DN:(Tryz.prog.info? 59).map (fun i=>(i.zero,i.size,i.bytes))=some (some (.agg #[.int .u64 0,.slice none 0 0]),2,32):=by kernel_rfl
def gE(base:Nat)(w:World)(v:Value)(l:List Pp):Prop:=w.ownsRow base 59 2 v l.length (cR l)
theorem gE.form{base:Nat}{w:World}{v:Value}{l:List Pp}(h:gE base w v l):(v=.slice none 0 0/\l=[])\/∃g cap,v=.slice (some ⟨g,0,none⟩) l.length cap/\base<=g/\g<w.heap.size/\l.length<=cap/\cap<=9223372036854775807:=by
 rcases h.2 with⟨a,h0⟩|⟨g,cap,cur,a,c,b,e,d,i,f⟩
 ·exact GJ ⟨a,Hk h0⟩
 ·exact GL ⟨g,cap,a,c,GN b,e,d⟩
theorem gE.aP{base:Nat}{w:World}{v:Value}{l:List Pp}(h:gE base w v l):Ea w v l:=by
 rcases h.2 with⟨a,h0⟩|⟨g,cap,cur,a,i,c,f,e,k,d⟩
 ·exact⟨none,0,by rw[a,h0],by omega,fun _=>rfl,fun h=>absurd h (by omega)⟩
 ·refine⟨some ⟨g,0,none⟩,cap,a,⟨f,e⟩,fun h=>by simp at h,fun _=>⟨g,0,rfl,fun j b=>?_⟩⟩;rw[H8,Iq _ g j cur 59 (0,0) c,<-d,Ij,GU b,It]
theorem gE.grown{base:Nat}{w w':World}{v:Value}{l:List Pp}{row:Option Nat}(h:gE base w v l)(b:w.grownBy w' row)(a:v.ownBlock=none\/v.ownBlock≠row):gE base w' v l:=h.kept b a
theorem gE.below{base:Nat}{w w':World}{v:Value}{l:List Pp}(h:gE base w v l)(a:Below w.heap.size w w'):gE base w' v l:=
 h.grown (row:=none) (bt a none) (by cases b:v.ownBlock<;>simp)
theorem Ag(base:Nat)(w:World):gE base w (.slice none 0 0) []:=⟨rfl,GJ ⟨rfl,rfl⟩⟩
theorem gE.stored{base g cap:Nat}{w:World}{l:List Pp}(h:gE base w (.slice (some ⟨g,0,none⟩) l.length cap) l)(i:Nat)(f:i<l.length)(x:Pp):
 gE base ((w.setCell ⟨g,i*2,none⟩ (.int .u64 (x.1:Int))).setCell ⟨g,i*2+1,none⟩ x.2) (.slice (some ⟨g,0,none⟩) l.length cap) (l.set i x)/\
  w.grownBy ((w.setCell ⟨g,i*2,none⟩ (.int .u64 (x.1:Int))).setCell ⟨g,i*2+1,none⟩ x.2) (some g):=by
 obtain⟨j,a⟩:=World.ownsRow.stored h (i*2) (.int .u64 (x.1:Int));obtain⟨e,b⟩:=World.ownsRow.stored j (i*2+1) x.2;rw[<-vK l i x f]at e;refine⟨by unfold gE;rw[G4];exact e,⟨b.os.trans a.os,b.tape.trans a.tape,b.output.trans a.output,GR a.size b.size,fun k d c=>(b.block k (Hh d a.size) c).trans (a.block k d c)⟩⟩
theorem jl{α:Type}(a b:List α)(i:Nat)(d:α)(h:i<a.length):(a++b).getD i d=a.getD i d:=by
 simp only[GG];rw[Ig h]
theorem gB{α:Type}(a:List α)(x:α)(d:α):(a++[x]).getD a.length d=x:=by
 simp[GG]
theorem k8{w:World}{a b n k s t:Nat}{e f:TypeId}{xs p:List Value}{u v:Value}(y:w.ownsRow a e s u n xs)(x:w.ownsRow b f t v k p)(i:e≠f):u.ownBlock=none\/u.ownBlock≠v.ownBlock:=by
 rcases y.2 with⟨h,_⟩|⟨g,cap,cur,j,z,q,_⟩
 ·exact GJ (by rw[h];rfl)
 ·rcases x.2 with⟨h,_⟩|⟨A,o,m,d,r,c,_⟩
  ·exact GL (by rw[h,j];simp[Value.ownBlock])
  ·refine GL ?_;rw[j,d];intro l;simp only[Value.ownBlock,GO]at l;subst l;rw[q]at c;simp only[GO,Obj.cells.injEq]at c;exact i c.2.1
structure fg(base:Nat)(P:Nat->Prop)(w:World)(v:Value)(l:List Pp)(L:List (Nat×List Nat)):Prop where
 own:gE base w v l
 len:l.length=L.length
 row:∀g,v.ownBlock=some g->P g
 key:∀i,i<L.length->(l.getD i dP).1=(L.getD i (0,[])).1
 body:∀i,i<L.length->Own base w (l.getD i dP).2 (L.getD i (0,[])).2
 eC:∀i,i<L.length->∀b,(l.getD i dP).2.ownBlock=some b->P b
theorem gE.aj{base:Nat}{w w':World}{v:Value}{l:List Pp}{S:Nat->Prop}(h:gE base w v l)(b:Touch S w w')(hs:∀g,v.ownBlock=some g->¬S g):gE base w' v l:=by
 refine⟨h.1,?_⟩;rcases h.2 with e|⟨g,cap,cur,a,d,c,r⟩
 ·exact GJ e
 ·exact GL ⟨g,cap,cur,a,d,b.row c (hs g (by rw[a];rfl)),r⟩
theorem Own.aj{base:Nat}{w w':World}{v:Value}{l:List Nat}{S:Nat->Prop}(h:Own base w v l)(b:Touch S w w')(hs:∀g,v.ownBlock=some g->¬S g):Own base w' v l:=by
 refine⟨⟨h.own.1,?_⟩,h.small,h.len⟩;rcases h.own.2 with e|⟨g,cap,cur,a,d,c,r⟩
 ·exact GJ e
 ·exact GL ⟨g,cap,cur,a,d,b.row c (hs g (by rw[a];rfl)),r⟩
theorem fg.aj{base:Nat}{P S:Nat->Prop}{w w':World}{v:Value}{l:List Pp}{L:List (Nat×List Nat)}(h:fg base P w v l L)(b:Touch S w w')(hs:∀g,P g->¬S g):fg base P w' v l L where
 own:=h.own.aj b fun g a=>hs g (h.row g a)
 len:=h.len
 row:=h.row
 key:=h.key
 body:=fun i c=>(h.body i c).aj b fun g a=>hs g (h.eC i c g a)
 eC:=h.eC
theorem fg.mono{base:Nat}{P Q:Nat->Prop}{w:World}{v:Value}{l:List Pp}{L:List (Nat×List Nat)}(h:fg base P w v l L)(a:∀g,P g->Q g):fg base Q w v l L where
 own:=h.own
 len:=h.len
 row:=fun g d=>a g (h.row g d)
 key:=h.key
 body:=h.body
 eC:=fun i c b e=>a b (h.eC i c b e)
theorem fg.new{base:Nat}{P:Nat->Prop}{w:World}{v:Value}{l:List Pp}{L:List (Nat×List Nat)}(h:fg base P w v l L):fg base (fun i=>base<=i/\i<w.heap.size) w v l L where
 own:=h.own
 len:=h.len
 row:=fun g c=>World.ownsRow.lt h.own g c
 key:=h.key
 body:=h.body
 eC:=fun i a b d=>World.ownsRow.lt (h.body i a).own b d
theorem fg.below{base:Nat}{P:Nat->Prop}{w w':World}{v:Value}{l:List Pp}{L:List (Nat×List Nat)}(h:fg base P w v l L)(a:Below w.heap.size w w'):fg base P w' v l L where
 own:=h.own.below a
 len:=h.len
 row:=h.row
 key:=h.key
 body:=fun i b=>(h.body i b).below a
 eC:=h.eC
theorem Af(base:Nat)(P:Nat->Prop)(w:World):fg base P w (.slice none 0 0) [] []where
 own:=Ag base w
 len:=rfl
 row:=fun g b=>by cases b
 key:=fun i a=>by simp at a
 body:=fun i a=>by simp at a
 eC:=fun i a=>by simp at a
theorem fg.snoc{base:Nat}{P:Nat->Prop}{w w':World}{v e u:Value}{l:List Pp}{L:List (Nat×List Nat)}{k:Nat}{m:List Nat}(h:fg base P w v l L)
 (j:gE base w' e (l++[(k,u)])) (f:w.grownBy w' v.ownBlock) (n:Own base w u m):fg base (fun i=>base<=i/\i<w'.heap.size) w' e (l++[(k,u)]) (L++[(k,m)]):=by
 have a:∀i,i<(L++[(k,m)]).length->Own base w' ((l++[(k,u)]).getD i dP).2 ((L++[(k,m)]).getD i (0,[])).2:=fun i c=>by
  rw[GI,I1]at c;by_cases he:i<L.length
  ·rw[jl _ _ _ _ (by rw[h.len];exact he),jl _ _ _ _ he];exact(h.body i he).grown f (k8 (h.body i he).own h.own (by decide))
  ·obtain rfl:i=L.length:=by omega
   rw[gB,<-h.len,gB];exact n.grown f (k8 n.own h.own (by decide))
 refine⟨j,by rw[GI,GI,h.len];rfl,fun g d=>World.ownsRow.lt j g d,fun i c=>?_,a,fun i c b o=>World.ownsRow.lt (a i c).own b o⟩;rw[GI,I1]at c;by_cases he:i<L.length
 ·rw[jl _ _ _ _ (by rw[h.len];exact he),jl _ _ _ _ he];exact h.key i he
 ·obtain rfl:i=L.length:=by omega
  rw[gB,<-h.len,gB]
theorem fg.stored{base g cap:Nat}{P:Nat->Prop}{w:World}{u:Value}{l:List Pp}{L:List (Nat×List Nat)}{k:Nat}{m:List Nat}(h:fg base P w (.slice (some ⟨g,0,none⟩) L.length cap) l L){i:Nat}(q:i<L.length)
 (r:Own base w u m):∃Q:Nat->Prop,fg base Q ((w.setCell ⟨g,i*2,none⟩ (.int .u64 (k:Int))).setCell ⟨g,i*2+1,none⟩ u) (.slice (some ⟨g,0,none⟩) L.length cap) (l.set i (k,u)) (L.set i (k,m))/\
  (∀b,Q b->P b\/u.ownBlock=some b)/\w.grownBy ((w.setCell ⟨g,i*2,none⟩ (.int .u64 (k:Int))).setCell ⟨g,i*2+1,none⟩ u) (some g):=by
 have f:=h.own;rw[<-h.len]at f;obtain⟨p,o⟩:=f.stored i (by rw[h.len];exact q) (k,u);rw[h.len]at p;have e:∀{x:Value}{c:List Nat},Own base w x c->Own base ((w.setCell ⟨g,i*2,none⟩ (.int .u64 (k:Int))).setCell ⟨g,i*2+1,none⟩ u) x c:=fun n=>
  n.grown o (k8 (v:=.slice (some ⟨g,0,none⟩) L.length cap) n.own h.own (by decide))
 refine⟨fun b=>P b\/u.ownBlock=some b,⟨p,by rw[G4,G4,h.len],fun b d=>GJ (h.row b d),fun j a=>?_,fun j a=>?_,fun j a b d=>?_⟩,fun b d=>d,o⟩
 ·rw[G4]at a;simp only[GG];by_cases he:i=j
  ·subst he;rw[Ix (by rw[h.len];exact a),Ix a];rfl
  ·rw[Iw he,Iw he];have:=h.key j a;simpa only[GG]using this
 ·rw[G4]at a;simp only[GG];by_cases he:i=j
  ·subst he;rw[Ix (by rw[h.len];exact a),Ix a];exact e r
  ·rw[Iw he,Iw he];have:=e (h.body j a);simpa only[GG]using this
 ·rw[G4]at a;simp only[GG]at d;by_cases he:i=j
  ·subst he;rw[Ix (by rw[h.len];exact a)]at d;exact GL d
  ·rw[Iw he]at d;have:=h.eC j a;simp only[GG]at this;exact GJ (this b d)
end Go.Proofs.YtbpodmallknhfaaGreat
namespace Go.Proofs.YtbpodmallknhfaaGreat
namespace Po
abbrev Pg:=Nat×List Nat
def blank:Pg:=(0,Pg.aY 500)
structure Ar where
 spare:Int
 base:Int
 cg:Int
def Ar.Fits(n:Nat)(a:Ar):Prop:=1<=a.cg/\0<=a.spare/\0<=a.base/\a.spare+5<=n/\a.base+4*a.cg<=n/\(a.spare+5<=a.base\/a.base+4*a.cg<=a.spare)
def Ar.Has(a:Ar)(i:Nat):Prop:=(a.spare<=(i:Int)/\(i:Int)<a.spare+5)\/(a.base<=(i:Int)/\(i:Int)<a.base+4*a.cg)
def Ei(a:Ar)(at_ count:Nat):Prop:=∀i,a.Has i->i<at_\/at_+count+2<=i
def l6(at_ count:Nat)(d a:Dk.ak):Prop:=∀i,(i<at_\/at_+count+2<=i)->d.waits.getD i none=none->a.waits.getD i none=none/\a.aL.getD i []=d.aL.getD i []
theorem l6.refl(a c:Nat)(d:Dk.ak):l6 a c d d:=fun _ _ h=>⟨h,rfl⟩
structure S where
 now:Nat->Pg
 bH:Nat->Pg
 first:Nat->Option Nat
 pins:Nat->Nat
 held:List Nat
 ao:Nat
 ar:Ar
def fresh(f:Nat->Pg)(fr:Nat)(a:Ar):S:=⟨f,f,fun _=>none,fun _=>0,[],fr,a⟩
def S.Has(s:S)(m:Int):Prop:=0<=m/\m<s.ar.cg
def cX(x:Pg):Prop:=x.1<18446744073709551616/\x.2.length=500/\∀b∈x.2,b<256
structure Good(s:S):Prop where
 sorted:s.held.Pairwise (·< ·)
 lS:s.held.length<=s.ao
 Ej:∀k∈s.held,(k:Int)<s.ar.cg
 pinned:∀k,0<s.pins k->k∈s.held
 aD:∀k,s.first k≠none->k∈s.held
 clean:∀k,s.first k=none->s.bH k=s.now k
 ok:∀k,cX (s.now k)
 DI:∀k,cX (s.bH k)
def Full(s:S):Prop:=s.held.length=s.ao/\∀k∈s.held,0<s.pins k
def fh(s:S)(k:Nat):Prop:=k∈s.held\/¬Full s
def vU(lg:Wl.S)(s:S):Prop:=∀k,(s.bH k).1<lg.ag/\(s.now k).1<lg.stop
def cI{α:Type}(f:Nat->α)(n:Nat)(x:α)(k:Nat):α:=if k=n then x else f k
theorem cC{α:Type}(f:Nat->α)(n:Nat)(x:α):cI f n x n=x:=GU rfl
theorem dQ{α:Type}(f:Nat->α){n k:Nat}(x:α)(h:k≠n):cI f n x k=f k:=GQ h
structure qI(s a:S):Prop where
 now:a.now=s.now
 pins:a.pins=s.pins
 ao:a.ao=s.ao
 ar:a.ar=s.ar
 first:∀k,k∈a.held->a.first k=s.first k
 bH:∀k,a.bH k=s.bH k\/a.bH k=s.now k
structure kJ(s:S)(n:Nat)(x:Pg)(a:S):Prop where
 now:a.now=cI s.now n x
 pins:a.pins=s.pins
 ao:a.ao=s.ao
 ar:a.ar=s.ar
 own:n∈a.held/\a.first n=some ((s.first n).getD x.1)
 first:∀k,k≠n->k∈a.held->a.first k=s.first k
 bH:∀k,a.bH k=s.bH k\/a.bH k=s.now k
structure iE(s:S)(n:Nat)(a:S):Prop where
 now:a.now=s.now
 pins:a.pins=s.pins
 ao:a.ao=s.ao
 ar:a.ar=s.ar
 own:a.first n=none
 first:∀k,k≠n->k∈a.held->a.first k=s.first k
 bH:∀k,a.bH k=s.bH k\/a.bH k=s.now k
structure nn(s a:S):Prop where
 now:a.now=s.now
 pins:a.pins=s.pins
 ao:a.ao=s.ao
 ar:a.ar=s.ar
 first:∀k,a.first k=none
structure Pinned(s:S)(n:Nat)(a:S):Prop where
 now:a.now=s.now
 pins:a.pins=cI s.pins n (s.pins n+1)
 ao:a.ao=s.ao
 ar:a.ar=s.ar
 first:∀k,k∈a.held->a.first k=s.first k
 bH:∀k,a.bH k=s.bH k\/a.bH k=s.now k
def iN(s:S)(n:Nat):S:={s with pins:=cI s.pins n (s.pins n-1)}
def Lf(lg a:Wl.S):Prop:=a=lg\/a=Wl.flush lg
def tF(s:S):List (Nat×Nat):=s.held.filterMap fun k=>(s.first k).map fun f=>(k,f)
theorem td{s:S}{k:Nat}(a:k∈s.held)(b:s.pins k=0):¬Full s:=fun h=>by have:=h.2 k a;omega
theorem kF{s:S}(h:∀k,s.pins k=0)(hf:1<=s.ao):¬Full s:=fun a=>by
 cases e:s.held with
 |nil=>have:=a.1;rw[e,Hz]at this;omega
 |cons k l=>
  have:=a.2 k (by rw[e];exact Hr ..);rw[h k]at this;omega
theorem Good.lQ{s:S}(h:Good s){k:Nat}(a:k∉s.held):s.first k=none:=by
 cases e:s.first k with
 |none=>rfl
 |some f=>exact absurd (h.aD k (by rw[e];intro c;cases c)) a
theorem kW{f:Nat->Pg}{fr:Nat}{a:Ar}(h:∀k,cX (f k)):Good (fresh f fr a):=
 ⟨List.Pairwise.nil,G7 _,(fun k b=>by cases b),(fun k b=>absurd b (Jc 0)),(fun k b=>absurd rfl b),(fun _ _=>rfl),h,h⟩
theorem Lf.stop{lg a:Wl.S}(h:Lf lg a):a.stop=lg.stop:=by rcases h with rfl|rfl<;>rfl
theorem Lf.an{lg a:Wl.S}(h:Lf lg a):a.an=lg.an:=by rcases h with rfl|rfl<;>rfl
theorem Lf.at_{lg a:Wl.S}(h:Lf lg a):a.at_=lg.at_:=by rcases h with rfl|rfl<;>rfl
theorem Lf.count{lg a:Wl.S}(h:Lf lg a):a.count=lg.count:=by rcases h with rfl|rfl<;>rfl
theorem Lf.start{lg a:Wl.S}(h:Lf lg a):a.start=lg.start:=by rcases h with rfl|rfl<;>rfl
theorem Lf.trans{a b c:Wl.S}(h:Lf a b)(k:Lf b c):Lf a c:=by
 rcases h with rfl|rfl
 ·exact k
 ·rcases k with rfl|rfl
  ·exact GL rfl
  ·exact GL rfl
end Po
end Go.Proofs.YtbpodmallknhfaaGreat
namespace Go.Proofs.YtbpodmallknhfaaGreat
open Go.RowKit
def aB(U V X:Nat->Prop)(i:Nat):Prop:=U i\/V i\/X i
def yR(a:Po.Ar):Value:=.agg #[.int .i64 a.spare,.int .i64 a.base,.int .i64 a.cg]
def CM(a:Po.Ar):Prop:=bF a.spare/\bF a.base/\bF a.cg
section
variable(PL:(Nat->Prop)->(Nat->Prop)->World->Nat->Nat->Dk.ak->Wl.S->Prop)(PO:(Nat->Prop)->World->Nat->Nat->Nat->Po.S->Prop)(Hw:Dk.ak->Po.Ar->(Nat->Po.Pg)->Prop)
structure cT(U V X:Nat->Prop)(w:World)(B L P:Nat)(d:Dk.ak)(lg:Wl.S)(s:Po.S):Prop where
 log:PL U V w B L d lg
 own:PO X w B L P s
 iK:Hw d s.ar s.bH
 off:∀i,cr U V i->¬X i
 fY:Po.vU lg s
 kz:Po.Ei s.ar lg.at_ lg.count
def cA(U V X:Nat->Prop)(w:World)(B L P:Nat)(w':World)(f:Dk.ak)(a:Wl.S)(e:Po.S):Prop:=
 ∃d c b,cT PL PO Hw d c b w' B L P f a e/\Touch (aB U V X) w w'/\bA U d w/\bA V c w/\bA X b w
def mJ(U V X:Nat->Prop)(w:World)(B L P:Nat)(w':World)(g:Dk.ak)(a:Wl.S)(f:Po.S)(u:Value):Prop:=
 ∃e d c,cT PL PO Hw e d c w' B L P g a f/\Touch (aB U V X) w w'/\bA U e w/\bA V d w/\bA X c w/\∀b,u.ownBlock=some b->¬aB e d c b
theorem mJ.fe{U V X:Nat->Prop}{w:World}{B L P:Nat}{w':World}{c:Dk.ak}{a:Wl.S}{b:Po.S}{u:Value}(h:mJ PL PO Hw U V X w B L P w' c a b u):cA PL PO Hw U V X w B L P w' c a b:=by
 obtain⟨l,k,j,i,g,f,e,d,-⟩:=h;exact⟨l,k,j,i,g,f,e,d⟩
end
structure bh(p:(Nat->Prop)->World->Nat->Dk.ak->Prop)(PL:(Nat->Prop)->(Nat->Prop)->World->Nat->Nat->Dk.ak->Wl.S->Prop)(PO:(Nat->Prop)->World->Nat->Nat->Nat->Po.S->Prop)
 (Hd:Dk.ak->Wl.S->Prop) (Hw:Dk.ak->Po.Ar->(Nat->Po.Pg)->Prop) (z:Dk.ak->Po.Ar->(Nat->Po.Pg->Prop)->Prop):Prop where
 Fg:∀{U w B d},p U w B d->Dk.Ok d
 sW:∀{U V T w w' B L d s},PL U V w B L d s->Touch T w w'->(∀i,cr U V i->¬T i)->PL U V w' B L d s
 DH:∀{U V w B L d s},PL U V w B L d s->∀i,cr U V i->i<w.heap.size
 dev:∀{U V w B L d s},PL U V w B L d s->p U w B d
 AB:∀{X T w w' B L P s},PO X w B L P s->Touch T w w'->(∀i,X i->¬T i)->PO X w' B L P s
 FE:∀{X w B L P s},PO X w B L P s->∀i,X i->i<w.heap.size
 AE:∀{X w B L P s},PO X w B L P s->Po.Good s
 tm:∀{d a n},Dk.Ok d->Dk.size d=n->Po.Ar.Fits n a->(∀i,a.Has i->d.waits.getD i none=none/\d.aL.getD i []=Dk.blank)->Hw d a fun _=>Po.blank
 new:∀(n:Nat)w,1<=n->n<=65536->Calls Tryz.prog 15 #[.int .i64 n,.int .i64 n] w fun e w'=>
  ∃B U,e=.returned (.tuple #[.pointer (some ⟨B,0,none⟩),.int .i64 0])/\p U w' B (Dk.fresh n n)/\(∀i,U i->w.heap.size<=i)/\Below w.heap.size w w'
 make:∀{U w B n}(a c:Nat),p U w B (Dk.fresh n n)->Wl.Fits n a c->Calls Tryz.prog 16 #[.pointer (some ⟨B,0,none⟩),.int .i64 a,.int .i64 c] w fun e w'=>
  ∃L j y g,e=.returned (.tuple #[.pointer (some ⟨L,0,none⟩),.int .i64 0])/\PL j y w' B L g (Wl.fresh a c)/\Wl.Calm n g/\Po.l6 a c (Dk.fresh n n) g/\Touch U w w'/\bA U j w/\(∀i,y i->w.heap.size<=i)
 append:∀{U V w B L d s}(x:Lr.R)(o n u c t:Value),PL U V w B L d s->bm w x o n u c t->Lr.xd x->s.an<=1000000->s.stop<=1000000000000->Calls Tryz.prog 29 #[.pointer (some ⟨L,0,none⟩),cz x o n u c t] w fun e w'=>
  e=.returned (.tuple #[.int .u64 ((Wl.dq s x).2.1:Nat),.int .i64 ((Wl.dq s x).2.2:Nat)])/\∃y,PL U y w' B L d (Wl.dq s x).1/\Touch V w w'/\bA V y w
 EF:∀{U V w B L d n lg a f},PL U V w B L d lg->Wl.Calm n d->a.Fits n->CM a->Po.Ei a lg.at_ lg.count->Hw d a f->Calls Tryz.prog 19 #[.pointer (some ⟨B,0,none⟩),yR a] w fun e w'=>
  e=.returned (.int .i64 0)/\∃j g,PL j V w' B L g lg/\Wl.Calm n g/\Hw g a f/\Touch U w w'/\bA U j w
 qo:∀{U V w B L d n lg a f}(fr:Nat),PL U V w B L d lg->Wl.Calm n d->a.Fits n->CM a->Hw d a f->(∀k,Po.cX (f k))->1<=fr->fr<=64->Calls Tryz.prog 18 #[.pointer (some ⟨B,0,none⟩),.pointer (some ⟨L,0,none⟩),yR a,.int .i64 (fr:Int)] w fun e w'=>
  ∃P X,e=.returned (.tuple #[.pointer (some ⟨P,0,none⟩),.int .i64 0])/\PO X w' B L P (Po.fresh f fr a)/\(∀i,X i->w.heap.size<=i)/\Below w.heap.size w w'
 get:∀{U V X w B L P d n lg s}(m:Nat),cT PL PO Hw U V X w B L P d lg s->Wl.Calm n d->lg.stop<=1000000000000->(m:Int)<s.ar.cg->Po.fh s m->Calls Tryz.prog 20 #[.pointer (some ⟨P,0,none⟩),.int .i64 (m:Int)] w fun e w'=>
  ∃u g b h,e=.returned (.tuple #[ed (s.now m).1 u,.int .i64 0])/\Own w.heap.size w' u (s.now m).2/\mJ PL PO Hw U V X w B L P w' g b h u/\Wl.Calm n g/\Po.Lf lg b/\Po.qI s h/\m∈h.held/\((∀k,s.first k=none)->g=d/\b=lg)
 rJ:∀{U V X w B L P d n lg s}(m:Int),cT PL PO Hw U V X w B L P d lg s->Wl.Calm n d->bF m->¬s.Has m->Calls Tryz.prog 20 #[.pointer (some ⟨P,0,none⟩),.int .i64 m] w fun e w'=>
  e=.returned (.tuple #[ed 0 (.slice none 0 0),.int .i64 2])/\Below w.heap.size w w'
 tu:∀{U V X w B L P d n lg s}(m:Nat),cT PL PO Hw U V X w B L P d lg s->Wl.Calm n d->(m:Int)<s.ar.cg->¬Po.fh s m->Calls Tryz.prog 20 #[.pointer (some ⟨P,0,none⟩),.int .i64 (m:Int)] w fun e w'=>
  e=.returned (.tuple #[ed 0 (.slice none 0 0),.int .i64 13])/\cA PL PO Hw U V X w B L P w' d lg s
 put:∀{U V X w B L P d n lg s}(m:Nat)(x:Po.Pg)(u:Value),cT PL PO Hw U V X w B L P d lg s->Wl.aX n d->lg.stop<=1000000000000->(m:Int)<s.ar.cg->Po.fh s m->Po.cX x->aJ w u x.2->x.1<lg.stop->Calls Tryz.prog 21 #[.pointer (some ⟨P,0,none⟩),.int .i64 (m:Int),ed x.1 u] w fun e w'=>
  (∃g b h,e=.returned (.int .i64 0)/\cA PL PO Hw U V X w B L P w' g b h/\Wl.aX n g/\(Wl.Calm n d->Wl.Calm n g)/\Po.Lf lg b/\Po.kJ s m x h)\/
  (¬Wl.Calm n d/\e=.returned (.int .i64 6)/\∃j g b c,p j w' B g/\Wl.aX n g/\Touch (aB U V X) w w'/\bA U j w/\Po.Lf lg b/\(∀k x,c k x->(x=s.bH k\/x=s.now k)/\x.1<b.ag)/\∀r,Hd (Dk.aQ g r) b/\z (Dk.aQ g r) s.ar c)
 dC:∀{U V X w B L P d n lg s}(m:Int)(k:Nat)(l:List Nat)(u:Value),cT PL PO Hw U V X w B L P d lg s->Wl.Calm n d->bF m->k<18446744073709551616->aJ w u l->(¬s.Has m\/l.length≠500)->Calls Tryz.prog 21 #[.pointer (some ⟨P,0,none⟩),.int .i64 m,ed k u] w fun e w'=>
  e=.returned (.int .i64 2)/\Below w.heap.size w w'
 nZ:∀{U V X w B L P d n lg s}(m:Nat)(x:Po.Pg)(u:Value),cT PL PO Hw U V X w B L P d lg s->Wl.Calm n d->(m:Int)<s.ar.cg->¬Po.fh s m->Po.cX x->aJ w u x.2->Calls Tryz.prog 21 #[.pointer (some ⟨P,0,none⟩),.int .i64 (m:Int),ed x.1 u] w fun e w'=>
  e=.returned (.int .i64 13)/\cA PL PO Hw U V X w B L P w' d lg s
 Fc:∀{U V X w B L P d n lg s}(m:Nat),cT PL PO Hw U V X w B L P d lg s->Wl.Calm n d->lg.stop<=1000000000000->(m:Int)<s.ar.cg->Po.fh s m->s.pins m<=1000000->Calls Tryz.prog 23 #[.pointer (some ⟨P,0,none⟩),.int .i64 (m:Int)] w fun e w'=>
  e=.returned (.int .i64 0)/\∃g b h,cA PL PO Hw U V X w B L P w' g b h/\Wl.Calm n g/\Po.Lf lg b/\Po.Pinned s m h
 rl:∀{U V X w B L P d n lg s}(m:Int),cT PL PO Hw U V X w B L P d lg s->Wl.Calm n d->bF m->¬s.Has m->Calls Tryz.prog 23 #[.pointer (some ⟨P,0,none⟩),.int .i64 m] w fun e w'=>e=.returned (.int .i64 2)/\Below w.heap.size w w'
 sX:∀{U V X w B L P d n lg s}(m:Nat),cT PL PO Hw U V X w B L P d lg s->Wl.Calm n d->(m:Int)<s.ar.cg->¬Po.fh s m->Calls Tryz.prog 23 #[.pointer (some ⟨P,0,none⟩),.int .i64 (m:Int)] w fun e w'=>
  e=.returned (.int .i64 13)/\cA PL PO Hw U V X w B L P w' d lg s
 pins:∀{U V X w B L P d n lg s}(m:Nat),cT PL PO Hw U V X w B L P d lg s->Wl.Calm n d->(m:Int)<s.ar.cg->s.pins m<=1000000->Calls Tryz.prog 12 #[.pointer (some ⟨P,0,none⟩),.int .i64 (m:Int)] w fun e w'=>e=.returned (.int .i64 (s.pins m:Int))/\∃q,w'=w.drewN q
 iN:∀{U V X w B L P d n lg s}(m:Nat),cT PL PO Hw U V X w B L P d lg s->Wl.Calm n d->(m:Int)<s.ar.cg->0<s.pins m->s.pins m<=1000000->Calls Tryz.prog 24 #[.pointer (some ⟨P,0,none⟩),.int .i64 (m:Int)] w fun e w'=>
  e=.returned (.int .i64 0)/\cA PL PO Hw U V X w B L P w' d lg (Po.iN s m)
 fk:∀{U V X w B L P d n lg s}(m:Int),cT PL PO Hw U V X w B L P d lg s->Wl.Calm n d->bF m->(s.Has m->s.pins m.toNat=0)->Calls Tryz.prog 24 #[.pointer (some ⟨P,0,none⟩),.int .i64 m] w fun e w'=>e=.returned (.int .i64 7)/\Below w.heap.size w w'
 flush:∀{U V X w B L P d n lg s}(m:Nat),cT PL PO Hw U V X w B L P d lg s->Wl.aX n d->lg.stop<=1000000000000->(m:Int)<s.ar.cg->Calls Tryz.prog 25 #[.pointer (some ⟨P,0,none⟩),.int .i64 (m:Int)] w fun e w'=>
  (∃g b h,e=.returned (.int .i64 0)/\cA PL PO Hw U V X w B L P w' g b h/\Wl.aX n g/\(Wl.Calm n d->Wl.Calm n g)/\Po.Lf lg b/\Po.iE s m h)\/
  (¬Wl.Calm n d/\e=.returned (.int .i64 6)/\∃j g b c,p j w' B g/\Wl.aX n g/\Touch (aB U V X) w w'/\bA U j w/\Po.Lf lg b/\(∀k x,c k x->(x=s.bH k\/x=s.now k)/\x.1<b.ag)/\∀r,Hd (Dk.aQ g r) b/\z (Dk.aQ g r) s.ar c)
 mv:∀{U V X w B L P d n lg s}(m:Int),cT PL PO Hw U V X w B L P d lg s->Wl.Calm n d->bF m->¬s.Has m->Calls Tryz.prog 25 #[.pointer (some ⟨P,0,none⟩),.int .i64 m] w fun e w'=>e=.returned (.int .i64 2)/\Below w.heap.size w w'
 iV:∀{U V X w B L P d n lg s},cT PL PO Hw U V X w B L P d lg s->Wl.Calm n d->lg.stop<=1000000000000->Calls Tryz.prog 26 #[.pointer (some ⟨P,0,none⟩)] w fun e w'=>
  e=.returned (.int .i64 0)/\∃g b h,cA PL PO Hw U V X w B L P w' g b h/\Wl.Calm n g/\Po.Lf lg b/\Po.nn s h
 aD:∀{U V X w B L P d n lg s},cT PL PO Hw U V X w B L P d lg s->Wl.Calm n d->Calls Tryz.prog 27 #[.pointer (some ⟨P,0,none⟩)] w fun e w'=>∃v,e=.returned v/\eR.Own w.heap.size w' v (Po.tF s)/\Below w.heap.size w w'
 held:∀{U V X w B L P d n lg s},cT PL PO Hw U V X w B L P d lg s->Wl.Calm n d->Calls Tryz.prog 11 #[.pointer (some ⟨P,0,none⟩)] w fun e w'=>∃v,e=.returned v/\Ints.Own w.heap.size w' v (s.held.map fun k:Nat=>(k:Int))/\Below w.heap.size w w'
end Go.Proofs.YtbpodmallknhfaaGreat
namespace Go.Proofs.YtbpodmallknhfaaGreat
open Go.RowKit
namespace Po
def iK:Ar:=⟨34,40,16⟩
theorem mH:iK.Fits 120:=⟨by decide,by decide,by decide,by decide,by decide,GJ (by decide)⟩
theorem wW:CM iK:=⟨⟨by decide,by decide⟩,⟨by decide,by decide⟩,⟨by decide,by decide⟩⟩
theorem mI:Ei iK 0 30:=fun i b=>by
 rcases b with⟨a,-⟩|⟨a,-⟩
 ·have a:(34:Int)<=(i:Int):=a;omega
 ·have a:(40:Int)<=(i:Int):=a;omega
def pq(n:Int)(i:Nat):Nat:=((n*31+i)%256).toNat
def nY(n:Int):List Nat:=(List.range 500).map (pq n)
def ck(n:Int):List Nat:=((nY n).set 0 (n%256).toNat).set 1 ((n/256)%256).toNat
theorem fM(n:Int):(nY n).length=500:=by simp[nY]
theorem aW(n:Int):(ck n).length=500:=by simp[ck,nY]
theorem uW(n:Int):∀x∈nY n,x<256:=by
 intro x a;simp only[nY,I2]at a;obtain⟨i,-,rfl⟩:=a;unfold pq;omega
theorem jU(n:Int):∀x∈ck n,x<256:=by
 intro x a;rcases Jf a with a|rfl
 ·rcases Jf a with a|rfl
  ·exact uW n x a
  ·omega
 ·omega
theorem ig(n:Int){k:Nat}(a:k<18446744073709551616):cX (k,ck n):=by
 unfold cX;dsimp only;exact⟨a,aW n,jU n⟩
theorem Bq:cX blank:=by
 unfold cX blank;dsimp only;exact⟨by decide,Pg.bQ 500,Pg.jy 500⟩
end Po
set_option maxHeartbeats 800000 in
set_option maxRecDepth 20000 in
theorem tK(w:World):Calls Tryz.prog 32 #[] w fun e w'=>e=.returned (yR Po.iK)/\Below w.heap.size w w':=by
 obtain⟨W,g⟩:∃W,W=w.alloc (.cells #[.int .i64 0,.int .i64 0,.int .i64 0] 46):=⟨_,rfl⟩
 have a:W.heap[w.heap.size]?=some (.cells #[.int .i64 0,.int .i64 0,.int .i64 0] 46 (0,0)):=by rw[g];exact GM _ _
 have k:Below w.heap.size w W:=by rw[g];exact ae _ _
 obtain⟨B,h⟩:∃B,B=w.heap.size:=⟨_,rfl⟩
 rw[<-h]at a;obtain⟨i,b⟩:=FA (x:=.int .i64 34) (y:=.int .i64 40) (z:=.int .i64 16) a;have f:=wT i;have d:=wS i;have c:=wR i;have n:=GD b;have l:=GD k;have j:=GD h;have m:Hid (_/\_/\_):=⟨f,d,c⟩
 clear i b f d c k;go_enter Tryz.func32,Tryz.ntmps32;go_upto_region 1 with(fail)
 rw[<-g,<-h];have c0:=wT a;have c1:=wS a;have c2:=wR a;have f0:=Ba a 0;have f1:=Ba a 1;have f2:=Ba a 2;clear a g h;go_wp2_with fail
 obtain⟨f,d,c⟩:=m.out;refine bodyPost_ret (v:=yR Po.iK) (by simp[results,Tryz.results32,go_sem,f,d,c,yR,Po.iK]) rfl ⟨rfl,?_⟩;exact aZ l.out n.out l.out.size (Nat.le_of_eq j.out.symm)
theorem xf(n:Int)(k:Nat):(wrap64 (wrap64 (n*31)+(k:Int)))%256=(Po.pq n k:Int):=by
 unfold Po.pq wrap64;omega
set_option maxHeartbeats 1600000 in
set_option maxRecDepth 20000 in
theorem bM(n:Int)(w:World):Calls Tryz.prog 30 #[.int .i64 n] w fun e w'=>∃g,e=.returned (.slice (some ⟨g,0,none⟩) 500 500)/\w.heap.size<=g/\Own w.heap.size w' (.slice (some ⟨g,0,none⟩) 500 500) (Po.ck n)/\Below w.heap.size w w':=by
 have c:(Instr.makeSlice 57 (.int .i64 500) (.int .i64 500)).run Tryz.prog w=.ok (.slice (some ⟨w.heap.size,0,none⟩) 500 500) (w.alloc (.cells ((Pg.aY 500).map bv).toArray 5)):=fz 500 (by decide) w;obtain⟨W,l⟩:∃W,W=w.alloc (.cells ((Pg.aY 500).map bv).toArray 5):=⟨_,rfl⟩
 have f:Below w.heap.size w W:=by rw[l];exact(GF _ _).alloc (GH _) _
 have d:W.heap[w.heap.size]?=some (.cells ((Pg.aY 500).map bv).toArray 5 (0,0)):=by rw[l];exact GM _ _
 rw[<-l]at c;have y:=GD d;have z:=GD f;obtain⟨g,p⟩:∃g,w.heap.size=g:=⟨_,rfl⟩
 rw[p]at c y;have u:=GD p;clear l f d p;go_enter Tryz.func30,Tryz.ntmps30;go_wp2_with fail
 clear c;go_loopw [4] (fun i wr=>∃k:Nat,k<=500/\i=.int .i64 k/\wr.heap[g]?=some (.cells (((Po.nY n).take k++(Pg.aY 500).drop k).map bv).toArray 5 (0,0))/\Touch (fun j=>j=g) W wr) (fun i _=>500-(intOf i).toNat)
 case atStart=>exact⟨0,G7 _,rfl,y.out,.refl _ _⟩
 case round=>
  obtain⟨k,C,rfl,b,hT⟩:=hrel;have a:=GD b;have s:=GD hT;clear b hT;by_cases hlt:k<500
  ·have A:(k:Int)<500:=by omega
   have hlen:k<((Po.nY n).take k++(Pg.aY 500).drop k).length:=by simp[Po.fM,Pg.bQ];omega
   have c1:=mF a.out 0 hlen;have f1:=aC a.out k;have hm:=ku (i:=k) a.out (Po.pq n k);rw[Pg.BQ (Po.nY n) (Pg.aY 500) k (Po.pq n k) (by rw[Po.fM];exact hlt) (by simp[Pg.bQ];omega) (by simp[Po.nY,hlt])]at hm;have B:=GD hm;have r:=GD (s.out.trans (.set g k (bv (Po.pq n k)) rfl));clear hm hlen;go_wp2_with fail
   rw[xf];go_roundw
   case rel=>exact⟨k+1,by omega,by go_num,B.out,r.out⟩
   case measure=>simp[intOf];omega
  ·obtain rfl:k=500:=by omega
   have b:=a.out;rw[Hm (by rw[Po.fM];omega),List.drop_of_length_le (by simp[Pg.bQ]),Ip]at b;have c0:=mF (i:=0) b 0 (by rw[Po.fM];decide);have f0:=aC b 0;have o:=ku (i:=0) b (n%256).toNat;have c1:=mF (i:=1) o 0 (by rw[G4,Po.fM];decide);have f1:=aC o 1;have m:=ku (i:=1) o ((n/256)%256).toNat;have q:bv (n%256).toNat=.int .u8 (n%256):=by unfold bv;congr 1;omega
   have x:bv ((n/256)%256).toNat=.int .u8 ((n/256)%256):=by unfold bv;congr 1;omega
   have h:=GD ((s.out.trans (.set g 0 (bv (n%256).toNat) rfl)).trans (.set g 1 (bv ((n/256)%256).toNat) rfl));rw[q,x]at h m;rw[q]at c1 f1;rw[show(((Po.nY n).set 0 (n%256).toNat).set 1 ((n/256)%256).toNat)=Po.ck n from rfl]at m;have t:=GD m;clear b o m q x a s;go_wp2_with fail
   go_ret;have v:=wy (base:=g) t.out (GH _) (Po.jU n) (by rw[Po.aW];decide);rw[Po.aW]at v;exact⟨g,rfl,by rw[u.out];exact GH _,by rw[u.out];exact v,z.out.trans (h.out.below (fun i e=>by rw[e,u.out];exact GH _) (by have:=z.out.size;omega))⟩
end Go.Proofs.YtbpodmallknhfaaGreat
namespace Go.Proofs.YtbpodmallknhfaaGreat
open Go.RowKit
def m9(base:Nat)(U:Nat->Prop):Prop:=∀i,U i->base<=i
theorem bA.from{base:Nat}{U b:Nat->Prop}{w:World}(h:bA U b w)(hf:m9 base U)(d:base<=w.heap.size):m9 base b:=fun i c=>by
 rcases h i c with a|a
 ·exact hf i a
 ·omega
theorem tw{base:Nat}{U:Nat->Prop}{w:World}(h:∀i,U i->w.heap.size<=i)(b:base<=w.heap.size):m9 base U:=fun i a=>GR b (h i a)
theorem Touch.under{base:Nat}{U:Nat->Prop}{w w':World}(h:Touch U w w')(hf:m9 base U)(a:base<=w.heap.size):Below base w w':=h.below hf a
theorem oS{base:Nat}{U V X:Nat->Prop}(h:m9 base U)(k:m9 base V)(l:m9 base X):m9 base (aB U V X):=fun i a=>a.elim (h i) fun a=>a.elim (k i) (l i)
section
variable{PD:(Nat->Prop)->World->Nat->Dk.ak->Prop}{PL:(Nat->Prop)->(Nat->Prop)->World->Nat->Nat->Dk.ak->Wl.S->Prop}{PO:(Nat->Prop)->World->Nat->Nat->Nat->Po.S->Prop}{Hd:Dk.ak->Wl.S->Prop}{Hw:Dk.ak->Po.Ar->(Nat->Po.Pg)->Prop}{Hp:Dk.ak->Po.Ar->(Nat->Po.Pg->Prop)->Prop}
variable{U V X:Nat->Prop}{w w':World}{B L P base:Nat}{d:Dk.ak}{lg:Wl.S}{s:Po.S}
structure pB(PL:(Nat->Prop)->(Nat->Prop)->World->Nat->Nat->Dk.ak->Wl.S->Prop)(PO:(Nat->Prop)->World->Nat->Nat->Nat->Po.S->Prop)(Hw:Dk.ak->Po.Ar->(Nat->Po.Pg)->Prop)(base:Nat)(U V X:Nat->Prop)(w:World)(B L P:Nat)(d:Dk.ak)(lg:Wl.S)(s:Po.S):Prop where
 at_:cT PL PO Hw U V X w B L P d lg s
 fu:m9 base U
 fv:m9 base V
 fx:m9 base X
theorem bh.bq(A:bh PD PL PO Hd Hw Hp)(h:cT PL PO Hw U V X w B L P d lg s){T:Nat->Prop}(b:Touch T w w')(hs:∀i,aB U V X i->¬T i):cT PL PO Hw U V X w' B L P d lg s:=
 ⟨A.sW h.log b (fun i a=>hs i (a.elim GJ fun h=>GL (GJ h))),A.AB h.own b (fun i a=>hs i (GL (GL a))),h.iK,h.off,h.fY,h.kz⟩
theorem bh.lt(A:bh PD PL PO Hd Hw Hp)(h:cT PL PO Hw U V X w B L P d lg s):∀i,aB U V X i->i<w.heap.size:=fun i a=>
 a.elim (fun b=>A.DH h.log i (GJ b)) fun a=>a.elim (fun b=>A.DH h.log i (GL b)) (A.FE h.own i)
theorem bh.below(A:bh PD PL PO Hd Hw Hp)(h:cT PL PO Hw U V X w B L P d lg s)(b:Below w.heap.size w w'):cT PL PO Hw U V X w' B L P d lg s:=
 A.bq h (T:=fun i=>w.heap.size<=i) (.ez b fun _ _ h=>h) fun i a=>by have:=A.lt h i a;omega
theorem pB.below(A:bh PD PL PO Hd Hw Hp)(h:pB PL PO Hw base U V X w B L P d lg s)(a:Below w.heap.size w w'):pB PL PO Hw base U V X w' B L P d lg s:=
 ⟨A.below h.at_ a,h.fu,h.fv,h.fx⟩
theorem pB.fe{w':World}{m:Dk.ak}{a:Wl.S}{g:Po.S}(h:pB PL PO Hw base U V X w B L P d lg s)(n:cA PL PO Hw U V X w B L P w' m a g)(b:base<=w.heap.size):
 ∃f e c,pB PL PO Hw base f e c w' B L P m a g/\Below base w w'/\Touch (aB U V X) w w'/\bA U f w/\bA V e w/\bA X c w:=by
 obtain⟨f,e,c,o,l,k,j,i⟩:=n;exact⟨f,e,c,⟨o,k.from h.fu b,j.from h.fv b,i.from h.fx b⟩,l.under (oS h.fu h.fv h.fx) b,l,k,j,i⟩
theorem pB.Cs{w':World}{n:Dk.ak}{a:Wl.S}{i:Po.S}{u:Value}(h:pB PL PO Hw base U V X w B L P d lg s)(o:mJ PL PO Hw U V X w B L P w' n a i u)(g:base<=w.heap.size):
 ∃f e c,pB PL PO Hw base f e c w' B L P n a i/\Below base w w'/\Touch (aB U V X) w w'/\bA U f w/\bA V e w/\bA X c w/\∀b,u.ownBlock=some b->¬aB f e c b:=by
 obtain⟨f,e,c,q,m,l,k,j,p⟩:=o;exact⟨f,e,c,⟨q,l.from h.fu g,k.from h.fv g,j.from h.fx g⟩,m.under (oS h.fu h.fv h.fx) g,m,l,k,j,p⟩
theorem cT.aI(A:bh PD PL PO Hd Hw Hp)(h:cT PL PO Hw U V X w B L P d lg s):Po.Good s:=A.AE h.own
set_option maxHeartbeats 3200000 in
set_option maxRecDepth 20000 in
theorem qD(A:bh PD PL PO Hd Hw Hp)(fr:Nat)(Z:1<=fr)(Y:fr<=64)(w:World):Calls Tryz.prog 8 #[.int .i64 (fr:Int)] w fun e w'=>
 ∃B L P U V X d,e=.returned (.tuple #[.pointer (some ⟨B,0,none⟩),.pointer (some ⟨L,0,none⟩),.pointer (some ⟨P,0,none⟩),.bool true])/\pB PL PO Hw w.heap.size U V X w' B L P d (Wl.fresh 0 30) (Po.fresh (fun _=>Po.blank) fr Po.iK)/\Wl.Calm 120 d/\Below w.heap.size w w':=by
 have c:=GD A;have HF:Hid (1<=fr/\fr<=64):=⟨Z,Y⟩
 clear A Z Y;go_enter Tryz.func8,Tryz.ntmps8;go_wp2_with fail
 refine(c.out.new 120 w (by decide) (by decide)).mono ?_;rintro e w1⟨B,U,rfl,W,Q,b⟩;have HD:=GD W;have G:Hid (m9 w.heap.size U):=fun i f=>Q i f;have C:=GD b;clear W Q b;go_wp2_with fail
 refine(c.out.make (n:=120) 0 30 HD.out ⟨by decide,by decide,by decide,by decide⟩).mono ?_;rintro e w2⟨L,U2,V2,d2,rfl,r,hC,S,hT,s,hV⟩;have J:=GD r;have q:=GD (C.out.trans ((hT.under G.out C.out.size).mono (GH _)));have l:=GD (s.from G.out C.out.size);have E:=GD (tw hV C.out.size);have z:=GD hC;have hz:Dk.size d2=120:=hC.sz;have u:=GD (c.out.tm (d:=d2) (a:=Po.iK) (n:=120) (c.out.Fg (c.out.dev r)) hz Po.mH fun i f=>by
  have D:i<120:=by
   rcases f with⟨-,h⟩|⟨-,h⟩
   ·have h:(i:Int)<34+5:=h;omega
   ·have h:(i:Int)<40+4*16:=h;omega
  have:=S i (Po.mI i f) (by show(List.replicate 120 (none:Option (List Nat))).getD i none=none;rw[GG,IU];split<;>rfl);refine⟨this.1,this.2.trans ?_⟩;show(List.replicate 120 Dk.blank).getD i []=Dk.blank;rw[GG,IU,GU D];rfl)
 clear r hC hT s hV HD G C hz S;go_wp2_with fail
 refine(tK w2).mono ?_;rintro e w3⟨rfl,b⟩;have x:=GD (c.out.sW J.out (T:=fun i=>w2.heap.size<=i) (.ez b fun _ _ h=>h) fun i f=>by have:=c.out.DH J.out i f;omega);have j:=GD (q.out.trans (b.mono q.out.size));clear b J q;go_wp2_with fail
 refine(c.out.EF x.out z.out Po.mH Po.wW Po.mI u.out).mono ?_;rintro e M⟨rfl,U4,d4,r,hC,O,hT,s⟩;have m:=GD r;have y:=GD hC;have t:=GD O;have F:=GD (s.from l.out j.out.size);have p:=GD (j.out.trans ((hT.under l.out j.out.size).mono (GH _)));clear r hC O hT s x z u l j;go_wp2_with fail
 refine(tK M).mono ?_;rintro e w5⟨rfl,b⟩;have g:=GD (c.out.sW m.out (T:=fun i=>M.heap.size<=i) (.ez b fun _ _ h=>h) fun i f=>by have:=c.out.DH m.out i f;omega);have o:=GD (p.out.trans (b.mono p.out.size));clear b m p;go_wp2_with fail
 refine(c.out.qo fr g.out y.out Po.mH Po.wW t.out (fun _=>Po.Bq) HF.out.1 HF.out.2).mono ?_;rintro e w6⟨P,X,rfl,R,N,b⟩;have I:=GD (c.out.sW g.out (T:=fun i=>w5.heap.size<=i) (.ez b fun _ _ h=>h) fun i f=>by have:=c.out.DH g.out i f;omega);have H:=GD (c.out.DH g.out);have K:=GD (o.out.trans (b.mono o.out.size));have HP:=GD R;have HX:=GD N;clear b g R N;go_wp2_with fail
 refine bodyPost_ret (v:=.tuple #[.pointer (some ⟨B,0,none⟩),.pointer (some ⟨L,0,none⟩),.pointer (some ⟨P,0,none⟩),.bool true]) (by simp[results,Tryz.results8,go_sem]) rfl ?_;refine⟨B,L,P,U4,V2,X,d4,rfl,⟨⟨I.out,HP.out,t.out,fun i f hx=>?_,fun k=>⟨?_,?_⟩,Po.mI⟩,F.out,E.out,tw HX.out o.out.size⟩,y.out,K.out⟩
 ·have:=H.out i f;have:=HX.out i hx;omega
 ·show 0<52;decide
 ·show 0<52;decide
theorem Po.rq{s:Po.S}(g:Po.Good s)(hp:∀k,k≠1->s.pins k=0)(hf:2<=s.ao):¬Po.Full s:=fun h=>by
 have f:=h.1;have c:=h.2;have d:=g.sorted;cases e:s.held with
 |nil=>rw[e,Hz]at f;omega
 |cons a l=>
  cases e2:l with
  |nil=>rw[e,e2,I1]at f;omega
  |cons b l2=>
   rw[e,e2]at c d;have n:=c a (Hr ..);have m:=c b (Hx _ (Hr ..));have i:=(List.pairwise_cons.1 d).1 b (Hr ..);by_cases j:a=1
   ·have:=hp b (by omega);omega
   ·have:=hp a j;omega
def fc(Q:Nat)(pv:Value)(a:Value)(S:ByteArray)(W:Nat)(i:Nat)(v:Value)(w:World):Prop:=
 match i with
 |0=>v=.int .i64 0
 |1=>v=.bool true
 |2=>v=.bool true
 |3=>v=.pointer (some ⟨Q,1,none⟩)
 |4=>v=a
 |5=>v=.string S
 |6=>Own W w v (Po.ck 5)
 |7=>v=.string S
 |8=>v=.bool true
 |9=>v=.bool true
 |10=>v=.bool true
 |11=>v=pv
 |12=>v=.int .i64 1
 |13=>v=.bool true
 |14=>v=.bool true
 |15=>v=.bool true
 |_=>True
theorem vW(Q:Nat)(pv:Value)(a:Value)(S:ByteArray)(W:Nat)(i:Nat)(v:Value)(w w':World)(b:Below w.heap.size w w')(h:fc Q pv a S W i v w):fc Q pv a S W i v w':=by
 unfold fc at*
 split at h<;>first|exact h|exact h.below b|trivial
set_option maxHeartbeats 3200000 in
set_option maxRecDepth 20000 in
theorem kh(A:bh PD PL PO Hd Hw Hp)(w:World):Calls Tryz.prog 7 #[] w fun e w'=>e=.returned (.bool true)/\Below w.heap.size w w':=by
 have t:=GD A;clear A;go_enter Tryz.func7,Tryz.ntmps7;go_wp2_with fail
 refine(qD t.out 2 (by decide) (by decide) w).mono ?_;rintro e w1⟨B,L,P,U,V,X,d,rfl,r,hC,l⟩;have HP:=GD r;have HC:=GD hC;have HB:=GD l;clear r hC l;go_wp2_with fail
 refine(bM 5 w1).mono ?_;rintro e w2⟨g,rfl,-,G,l⟩;have C:=GD (HP.out.below t.out l);have Y:=GD (HB.out.trans (l.mono HB.out.size));have au:=GD G;clear G l HP HB;go_wp2_with fail
 refine(t.out.put 3 (0,Po.ck 5) _ C.out.at_ ⟨t.out.Fg (t.out.dev C.out.at_.log),HC.out.sz,HC.out.bD⟩ (by decide) (by decide) (GL (Po.kF (fun _=>rfl) (by decide))) (Po.ig 5 (by decide)) au.out.aP (by decide)).mono ?_;rintro e w3 h;obtain⟨d3,aD,s3,rfl,hw,-,ai,s,hs⟩:∃d' ah s',e=.returned (.int .i64 0)/\cA PL PO Hw U V X w2 B L P w3 d' ah s'/\Wl.aX 120 d'/\(Wl.Calm 120 d->Wl.Calm 120 d')/\Po.Lf (Wl.fresh 0 30) ah/\Po.kJ (Po.fresh (fun _=>Po.blank) 2 Po.iK) 3 (0,Po.ck 5) s':=by
  rcases h with h|⟨h,-⟩
  ·exact h
  ·exact absurd HC.out h
 obtain⟨U3,V3,X3,r,l,-⟩:=C.out.fe hw Y.out.size;have N:=GD r;have aA:=GD (ai HC.out);have T:=GD (Y.out.trans l);have o:=GD hs;have aw:=GD s;clear h hw ai s hs r l C HC Y au;go_wp2_with fail
 have I:s3.ar=Po.iK:=o.out.ar;have H:aD.stop=52:=aw.out.stop;refine(t.out.Fc 1 N.out.at_ aA.out (by rw[H];decide) (by rw[I];decide) (GL (Po.kF (fun k=>by rw[o.out.pins];rfl) (by rw[o.out.ao];decide))) (by rw[o.out.pins];decide)).mono ?_;rintro e w4⟨rfl,d4,aC,s4,hw,hC,s,hs⟩;obtain⟨U4,V4,X4,r,l,-⟩:=N.out.fe hw T.out.size;have z:=GD r;have az:=GD hC;have R:=GD (T.out.trans l);have aF:=GD hs;have av:Hid (aC.stop=52):=s.stop.trans H;have Z:Hid (s4.ar=Po.iK):=hs.ar.trans I;have M:Hid (s4.pins=Po.cI (fun _=>0) 1 1):=by show _=_;rw[hs.pins,o.out.pins];rfl
 have HN:Hid (s4.now 3=(0,Po.ck 5)):=by show _=_;rw[hs.now,o.out.now];exact Po.cC _ _ _
 have ax:Hid (s4.ao=2):=hs.ao.trans o.out.ao;clear hw hC s hs r l N aA T H I o aw;go_wp2_with fail
 have hc:=t.out.get 3 z.out.at_ az.out (by rw[av.out];decide) (by rw[Z.out];decide) (GL (Po.rq (z.out.at_.aI t.out) (fun k hk=>by rw[M.out];exact Po.dQ _ _ hk) (by rw[ax.out];decide)));rw[HN.out]at hc;refine hc.mono ?_;rintro e w5⟨u,d5,aK,s5,rfl,G,hw,hC,-,hs,-,-⟩;obtain⟨U5,V5,X5,r,l,-⟩:=z.out.fe hw.fe R.out.size;obtain⟨p3,c3,rfl⟩:∃p c,u=.slice p 500 c:=by
  obtain⟨p,c,e,-⟩:=G.aP.form;rw[Po.aW]at e;exact⟨p,c,e⟩
 have al:=GD r;have aH:=GD hC;have O:=GD (R.out.trans l);have aq:=GD G;have an:Hid (s5.pins 1=1):=by show _=_;rw[hs.pins,M.out];rfl
 have aJ:Hid (s5.ar=Po.iK):=hs.ar.trans Z.out;clear hc G hw hC hs r l z az R aF av M HN ax Z;obtain⟨S,hS⟩:∃S,S=strOfNums ((Po.ck 5).map fun x:Nat=>(x:Int)):=⟨_,rfl⟩
 have HS:=GD hS;clear hS;go_upto_region 5 with(fail)
 obtain⟨W,hW⟩:∃W,W=w5.alloc (.cells #[.int .u64 0,.slice p3 500 c3] 59):=⟨_,rfl⟩
 have hr:W.heap[w5.heap.size]?=some (.cells #[.int .u64 0,.slice p3 500 c3] 59 (0,0)):=by rw[hW];exact GM _ _
 have l:Below w5.heap.size w5 W:=by rw[hW];exact(GF _ _).alloc (GH _) _
 rw[<-hW];obtain⟨Q,hQ⟩:∃Q,Q=w5.heap.size:=⟨_,rfl⟩
 rw[<-hQ]at hr⊢;have C1:=GD (bp hr);have HQ:Hid (Q<W.heap.size):=GN hr;have HO:=GD (aq.out.aP.below l);have aB:=GD (O.out.trans (l.mono O.out.size));have aG:=GD (al.out.below t.out l);clear hW hr l hQ al O aq;have E:∀y,Below W.heap.size W y->(convert 57 9 (.slice p3 500 c3)).run Tryz.prog y=.ok (.string S) y:=fun y h=>by rw[HS.out];exact fq (HO.out.below h)
 have aj:=GD E;have F:∀y,Below W.heap.size W y->Calls Tryz.prog 12 #[.pointer (some ⟨P,0,none⟩),.int .i64 1] y fun e w'=>e=.returned (.int .i64 1)/\Below y.heap.size y w':=fun y h=>by
  have hc:=t.out.pins 1 (t.out.below aG.out.at_ h) aH.out (by rw[aJ.out];decide) (by rw[an.out];decide);rw[an.out]at hc;exact hc.mono fun _ _⟨he,q,hq⟩=>⟨he,by rw[hq];exact below_drewN _ _ _⟩
 have ak:=GD F;clear E F;refine Ord.walk (fc Q (.pointer (some ⟨P,0,none⟩)) (.slice p3 500 c3) S W.heap.size) (fun _ _ w'=>Below W.heap.size W w') (fun a b=>Below a.heap.size a b)
  (by kernel_rfl) (by kernel_rfl) ?fr ?hfr (fun i v w w' l h=>vW _ _ _ _ _ i v w w' l h) (fun xs=>(GF _ _).ij) ?he ?hend
 case hfr=>
  intro xs;simp only[Ord.fill,Act.put,GP,GX,GV];rfl
 case he=>
  iterate 16 (refine Ord.aa (fun D xs w2 hD hC r hR f K j=>?_) ?_;rotate_left)
  rotate_left
  ·clear f;go_simp;exact j _ _ ⟨_,rfl,GF _ _,hR,rfl⟩
  ·have q0:=Ord.ab _ f 0 (by decide);simp only[fc]at q0;simp only[q0]at j;clear f;go_simp;exact j _ _ ⟨_,rfl,GF _ _,hR,rfl⟩
  ·have q1:=Ord.ab _ f 1 (by decide);simp only[fc]at q1;simp only[q1]at j;clear f;go_simp;exact j _ _ ⟨_,rfl,GF _ _,hR,rfl⟩
  ·have n:=Ord.ab _ f 2 (by decide);simp only[fc]at n;simp only[n]at j;clear f;go_simp;exact j _ _ ⟨_,rfl,GF _ _,hR,rfl⟩
  ·have q3:=Ord.ab _ f 3 (by decide);simp only[fc]at q3;have n:=Ord.ab _ f 2 (by decide);simp only[fc]at n;simp only[q3,n]at j;clear f;have cc:=hR.cell (p:=⟨Q,1,none⟩) HQ.out;rw[C1.out]at cc;go_simp;exact j _ _ ⟨_,rfl,GF _ _,hR,rfl⟩
  ·have q4:=Ord.ab _ f 4 (by decide);simp only[fc]at q4;have n:=Ord.ab _ f 2 (by decide);simp only[fc]at n;simp only[q4,n]at j;clear f;have aE:=aj.out _ hR;go_simp;exact j _ _ ⟨_,rfl,GF _ _,hR,rfl⟩
  ·have n:=Ord.ab _ f 2 (by decide);simp only[fc]at n;simp only[n]at j;clear f;go_simp;refine(bM 5 w2).mono ?_;rintro e w'⟨g,rfl,-,G,l⟩;exact j _ _ ⟨_,rfl,l,hR.trans (l.mono hR.size),G.from hR.size⟩
  ·have n:=Ord.ab _ f 2 (by decide);simp only[fc]at n;have q6:=Ord.ab _ f 6 (by decide);simp only[fc]at q6;simp only[n]at j;clear f;have aE:(convert 57 9 (xs 6)).run Tryz.prog w2=.ok (.string S) w2:=by rw[HS.out];exact fq q6.aP
   go_simp;exact j _ _ ⟨_,rfl,GF _ _,hR,rfl⟩
  ·have q5:=Ord.ab _ f 5 (by decide);simp only[fc]at q5;have q7:=Ord.ab _ f 7 (by decide);simp only[fc]at q7;have n:=Ord.ab _ f 2 (by decide);simp only[fc]at n;simp only[q5,q7,n]at j;clear f;go_simp;exact j _ _ ⟨_,rfl,GF _ _,hR,rfl⟩
  ·have n:=Ord.ab _ f 2 (by decide);simp only[fc]at n;have q8:=Ord.ab _ f 8 (by decide);simp only[fc]at q8;simp only[n,q8]at j;clear f;go_simp;exact j _ _ ⟨_,rfl,GF _ _,hR,rfl⟩
  ·have q9:=Ord.ab _ f 9 (by decide);simp only[fc]at q9;simp only[q9]at j;clear f;go_simp;exact j _ _ ⟨_,rfl,GF _ _,hR,rfl⟩
  ·have m:=Ord.ab _ f 10 (by decide);simp only[fc]at m;simp only[m]at j;clear f;go_simp;exact j _ _ ⟨_,rfl,GF _ _,hR,rfl⟩
  ·have ag:=Ord.ab _ f 11 (by decide);simp only[fc]at ag;have m:=Ord.ab _ f 10 (by decide);simp only[fc]at m;simp only[ag,m]at j;clear f;go_simp;refine(ak.out w2 hR).mono ?_;rintro e w'⟨rfl,l⟩;exact j _ _ ⟨_,rfl,l,hR.trans (l.mono hR.size),rfl⟩
  ·have af:=Ord.ab _ f 12 (by decide);simp only[fc]at af;have m:=Ord.ab _ f 10 (by decide);simp only[fc]at m;simp only[af,m]at j;clear f;go_simp;exact j _ _ ⟨_,rfl,GF _ _,hR,rfl⟩
  ·have m:=Ord.ab _ f 10 (by decide);simp only[fc]at m;have ae:=Ord.ab _ f 13 (by decide);simp only[fc]at ae;simp only[m,ae]at j;clear f;go_simp;exact j _ _ ⟨_,rfl,GF _ _,hR,rfl⟩
  ·have ad:=Ord.ab _ f 14 (by decide);simp only[fc]at ad;simp only[ad]at j;clear f;go_simp;exact j _ _ ⟨_,rfl,GF _ _,hR,rfl⟩
  exact Ord.ay
 case hend=>
  intro D xs w9 hR hF;have J:=(hF 15 (by decide)).2;simp only[fc]at J;rw[J];clear J;clear hF;generalize xs 0=x0 at*
  generalize xs 1=x1 at*
  generalize xs 2=x2 at*
  generalize xs 3=x3 at*
  generalize xs 4=x4 at*
  generalize xs 5=x5 at*
  generalize xs 6=x6 at*
  generalize xs 7=x7 at*
  generalize xs 8=x8 at*
  generalize xs 9=x9 at*
  generalize xs 10=x10 at*
  generalize xs 11=x11 at*
  generalize xs 12=x12 at*
  generalize xs 13=x13 at*
  generalize xs 14=x14 at*
  go_wp2_with fail
  go_ret;exact⟨rfl,aB.out.trans (hR.mono aB.out.size)⟩
end
structure Made(T:TypeId)(z:Value)(base:Nat)(w:World)(v:Value):Prop where
 ex:∃g,v=.slice (some ⟨g,0,none⟩) 16 16/\base<=g/\w.heap[g]?=some (.cells (List.replicate 16 z).toArray T (0,0))
theorem Made.below{T:TypeId}{z v:Value}{base:Nat}{w w':World}(h:Made T z base w v)(b:Below w.heap.size w w'):Made T z base w' v:=by
 obtain⟨g,d,c,a⟩:=h.ex;exact⟨g,d,c,by rw[b.block g (GN a)];exact a⟩
theorem oE{T:TypeId}{z:Value}{base:Nat}{w:World}(h:base<=w.heap.size):Made T z base (w.alloc (.cells (List.replicate 16 z).toArray T)) (.slice (some ⟨w.heap.size,0,none⟩) 16 16):=⟨_,rfl,h,GM _ _⟩
structure CA(base:Nat)(w:World)(v:Value):Prop where
 ex:∃a b c,v=.agg #[.slice none 0 0,a,b,c]/\Made 56 (.int .u64 0) base w a/\Made 4 (.bool false) base w b/\Made 3 (.int .i64 0) base w c
theorem CA.below{v:Value}{base:Nat}{w w':World}(h:CA base w v)(d:Below w.heap.size w w'):CA base w' v:=by
 obtain⟨a,b,c,i,g,f,e⟩:=h.ex;exact⟨a,b,c,i,g.below d,f.below d,e.below d⟩
structure BH(base:Nat)(w:World)(v:Value):Prop where
 ex:∃R a b c,v=.pointer (some ⟨R,0,none⟩)/\base<=R/\w.heap[R]?=some (.cells #[.slice none 0 0,a,b,c] 40 (0,0))/\Made 56 (.int .u64 0) base w a/\Made 4 (.bool false) base w b/\Made 3 (.int .i64 0) base w c
theorem BH.below{v:Value}{base:Nat}{w w':World}(h:BH base w v)(d:Below w.heap.size w w'):BH base w' v:=by
 obtain⟨R,a,b,c,h0,j,e,i,g,f⟩:=h.ex;exact⟨R,a,b,c,h0,j,by rw[d.block R (GN e)];exact e,i.below d,g.below d,f.below d⟩
theorem Am:(Tryz.prog.info? 56).map (fun i=>(i.zero,i.size,i.bytes))=some (some (.int .u64 0),1,8):=by kernel_rfl
theorem EJ:(Tryz.prog.info? 4).map (fun i=>(i.zero,i.size,i.bytes))=some (some (.bool false),1,1):=by kernel_rfl
theorem EI:(Tryz.prog.info? 3).map (fun i=>(i.zero,i.size,i.bytes))=some (some (.int .i64 0),1,8):=by kernel_rfl
theorem Cj(n:Nat)(f:n<=65536)(W:World):(Instr.makeSlice 37 (.int .i64 (n:Int)) (.int .i64 (n:Int))).run Tryz.prog W=.ok (.slice (some ⟨W.heap.size,0,none⟩) n n) (W.alloc (.cells (List.replicate n (Value.int .u64 0)).toArray 56)):=by
 obtain⟨i0,d,c,a,b⟩:=info_parts Am;have h:=run_makeSlice (P:=Tryz.prog) W 37 56 i0 _ Tryz.underlying37 d c .i64 .i64 n n (by omega) (Int.le_refl _) (by rw[a];omega) (by rw[b];omega) (by omega);rw[Ic,a,Iz]at h;rw[h];have e:madeCells #[Value.int .u64 0] n=(List.replicate n (Value.int .u64 0)).toArray:=lH _ n;congr 3
theorem DL(W:World):(Instr.makeSlice 37 (.int .i64 16) (.int .i64 16)).run Tryz.prog W=.ok (.slice (some ⟨W.heap.size,0,none⟩) 16 16) (W.alloc (.cells (List.replicate 16 (Value.int .u64 0)).toArray 56)):=Cj 16 (by decide) W
theorem DK(n:Nat)(f:n<=65536)(W:World):(Instr.makeSlice 38 (.int .i64 (n:Int)) (.int .i64 (n:Int))).run Tryz.prog W=.ok (.slice (some ⟨W.heap.size,0,none⟩) n n) (W.alloc (.cells (List.replicate n (Value.bool false)).toArray 4)):=by
 obtain⟨i0,d,c,a,b⟩:=info_parts EJ;have h:=run_makeSlice (P:=Tryz.prog) W 38 4 i0 _ Tryz.underlying38 d c .i64 .i64 n n (by omega) (Int.le_refl _) (by rw[a];omega) (by rw[b];omega) (by omega);rw[Ic,a,Iz]at h;rw[h];have e:madeCells #[Value.bool false] n=(List.replicate n (Value.bool false)).toArray:=lH _ n;congr 3
theorem EH(W:World):(Instr.makeSlice 38 (.int .i64 16) (.int .i64 16)).run Tryz.prog W=.ok (.slice (some ⟨W.heap.size,0,none⟩) 16 16) (W.alloc (.cells (List.replicate 16 (Value.bool false)).toArray 4)):=DK 16 (by decide) W
theorem DJ(n:Nat)(f:n<=65536)(W:World):(Instr.makeSlice 34 (.int .i64 (n:Int)) (.int .i64 (n:Int))).run Tryz.prog W=.ok (.slice (some ⟨W.heap.size,0,none⟩) n n) (W.alloc (.cells (List.replicate n (Value.int .i64 0)).toArray 3)):=by
 obtain⟨i0,d,c,a,b⟩:=info_parts EI;have h:=run_makeSlice (P:=Tryz.prog) W 34 3 i0 _ Tryz.underlying34 d c .i64 .i64 n n (by omega) (Int.le_refl _) (by rw[a];omega) (by rw[b];omega) (by omega);rw[Ic,a,Iz]at h;rw[h];have e:madeCells #[Value.int .i64 0] n=(List.replicate n (Value.int .i64 0)).toArray:=lH _ n;congr 3
theorem EG(W:World):(Instr.makeSlice 34 (.int .i64 16) (.int .i64 16)).run Tryz.prog W=.ok (.slice (some ⟨W.heap.size,0,none⟩) 16 16) (W.alloc (.cells (List.replicate 16 (Value.int .i64 0)).toArray 3)):=DJ 16 (by decide) W
def u64v(n:Nat):Value:=.int .u64 (n:Int)
def i64v(n:Nat):Value:=.int .i64 (n:Int)
structure eQ(base:Nat)(Z:Nat->Prop)(R:Nat)(w:World)(N:List (Nat×List Nat))(fi:List Nat)(di:List Bool)(pi:List Nat):Prop where
 lN:N.length=16
 lf:fi.length=16
 ld:di.length=16
 lp:pi.length=16
 low:∀i,Z i->base<=i/\i<w.heap.size
 zR:Z R
 ex:∃b c gf gd a l,w.heap[R]?=some (.cells #[.slice (some ⟨b,0,none⟩) 16 c,.slice (some ⟨gf,0,none⟩) 16 16,.slice (some ⟨gd,0,none⟩) 16 16,.slice (some ⟨a,0,none⟩) 16 16] 40 (0,0))/\Z gf/\Z gd/\Z a/\
  fg base Z w (.slice (some ⟨b,0,none⟩) 16 c) l N/\w.heap[gf]?=some (.cells (fi.map u64v).toArray 56 (0,0))/\w.heap[gd]?=some (.cells (di.map Value.bool).toArray 4 (0,0))/\w.heap[a]?=some (.cells (pi.map i64v).toArray 3 (0,0))
section
variable{base R:Nat}{Z:Nat->Prop}{w w':World}{N:List (Nat×List Nat)}{fi:List Nat}{di:List Bool}{pi:List Nat}
theorem eQ.aj{T:Nat->Prop}(h:eQ base Z R w N fi di pi)(a:Touch T w w')(hs:∀i,Z i->¬T i):eQ base Z R w' N fi di pi:=by
 obtain⟨o,p,gf,gd,f,l,n,e,d,c,m,k,j,g⟩:=h.ex;exact⟨h.lN,h.lf,h.ld,h.lp,fun i b=>⟨(h.low i b).1,Hh (h.low i b).2 a.size⟩,h.zR,o,p,gf,gd,f,l,a.row n (hs R h.zR),e,d,c,m.aj a hs,a.row k (hs gf e),a.row j (hs gd d),a.row g (hs f c)⟩
theorem eQ.below(h:eQ base Z R w N fi di pi)(b:Below w.heap.size w w'):eQ base Z R w' N fi di pi:=
 h.aj (T:=fun i=>w.heap.size<=i) (.ez b fun _ _ h=>h) fun i a=>by have:=(h.low i a).2;omega
theorem eh{a b:Nat}{A B:Array Value}{T S:TypeId}(h:w.heap[a]?=some (.cells A T (0,0)))(k:w.heap[b]?=some (.cells B S (0,0)))(c:T≠S):a≠b:=by
 rintro rfl;rw[h]at k;simp only[GO,Obj.cells.injEq,Jj]at k;exact c k.2
theorem gE.px{v:Value}{l:List Pp}(h:gE base w v l){b:Nat}{B:Array Value}{S:TypeId}(k:w.heap[b]?=some (.cells B S (0,0)))(d:59≠S):∀g,v.ownBlock=some g->¬g=b:=by
 intro g a e;rcases h.2 with⟨c,-⟩|⟨j,cap,cur,c,i,f,-⟩
 ·rw[c]at a;cases a
 ·rw[c]at a;simp only[Value.ownBlock,GO]at a;exact eh f k d (a.trans e)
theorem Own.px{v:Value}{l:List Nat}(h:Own base w v l){b:Nat}{B:Array Value}{S:TypeId}(k:w.heap[b]?=some (.cells B S (0,0)))(d:5≠S):∀g,v.ownBlock=some g->¬g=b:=by
 intro g a e;rcases h.own.2 with⟨c,-⟩|⟨j,cap,cur,c,i,f,-⟩
 ·rw[c]at a;cases a
 ·rw[c]at a;simp only[Value.ownBlock,GO]at a;exact eh f k d (a.trans e)
theorem fg.other{v:Value}{l:List Pp}{P:Nat->Prop}(h:fg base P w v l N){b:Nat}{B:Array Value}{S:TypeId}(k:w.heap[b]?=some (.cells B S (0,0)))(e:59≠S)(d:5≠S)(a:Touch (·=b) w w'):fg base P w' v l N where
 own:=h.own.aj a (h.own.px k e)
 len:=h.len
 row:=h.row
 key:=h.key
 body:=fun i c=>(h.body i c).aj a ((h.body i c).px k d)
 eC:=h.eC
theorem eQ.d(h:eQ base Z R w N fi di pi){i:Nat}(o:i<16):∃gd,w.cell? ⟨R,2,none⟩=some (.slice (some ⟨gd,0,none⟩) 16 16)/\w.cell? ⟨gd,i,none⟩=some (.bool (di.getD i false))/\w.frozen? ⟨gd,i,none⟩=false/\
 ∀b,eQ base Z R (w.setCell ⟨gd,i,none⟩ (.bool b)) N fi (di.set i b) pi/\Touch Z w (w.setCell ⟨gd,i,none⟩ (.bool b)):=by
 obtain⟨t,u,gf,gd,s,l,f,r,n,q,p,m,a,k⟩:=h.ex;refine⟨gd,ah f 2 rfl,mF a false (by rw[h.ld];exact o),aC a i,fun b=>?_⟩;have c:Touch (·=gd) w (w.setCell ⟨gd,i,none⟩ (.bool b)):=Touch.set (S:=(·=gd)) gd i _ rfl;refine⟨⟨h.lN,h.lf,by rw[G4];exact h.ld,h.lp,fun j g=>⟨(h.low j g).1,Hh (h.low j g).2 c.size⟩,h.zR,t,u,gf,gd,s,l,c.row f (eh f a (by decide)),r,n,q,p.other a (by decide) (by decide) c,c.row m (eh m a (by decide)),ku a b,c.row k (eh k a (by decide))⟩,c.mono fun j _ e=>by rw[show j=gd from e];exact n⟩
theorem eQ.p(h:eQ base Z R w N fi di pi){i:Nat}(q:i<16):∃a,w.cell? ⟨R,3,none⟩=some (.slice (some ⟨a,0,none⟩) 16 16)/\w.cell? ⟨a,i,none⟩=some (.int .i64 (pi.getD i 0:Nat))/\w.frozen? ⟨a,i,none⟩=false/\
 ∀b:Nat,eQ base Z R (w.setCell ⟨a,i,none⟩ (.int .i64 (b:Int))) N fi di (pi.set i b)/\Touch Z w (w.setCell ⟨a,i,none⟩ (.int .i64 (b:Int))):=by
 obtain⟨u,v,gf,gd,a,l,g,t,s,o,r,n,m,c⟩:=h.ex;refine⟨a,ah g 3 rfl,mF c 0 (by rw[h.lp];exact q),aC c i,fun b=>?_⟩;have d:Touch (·=a) w (w.setCell ⟨a,i,none⟩ (.int .i64 (b:Int))):=Touch.set (S:=(·=a)) a i _ rfl;refine⟨⟨h.lN,h.lf,h.ld,by rw[G4];exact h.lp,fun j k=>⟨(h.low j k).1,Hh (h.low j k).2 d.size⟩,h.zR,u,v,gf,gd,a,l,d.row g (eh g c (by decide)),t,s,o,r.other c (by decide) (by decide) d,d.row n (eh n c (by decide)),d.row m (eh m c (by decide)),ku (f:=i64v) c b⟩,d.mono fun j _ e=>by rw[show j=a from e];exact o⟩
theorem eQ.f(h:eQ base Z R w N fi di pi){i:Nat}(o:i<16):∃gf,w.cell? ⟨R,1,none⟩=some (.slice (some ⟨gf,0,none⟩) 16 16)/\w.cell? ⟨gf,i,none⟩=some (.int .u64 (fi.getD i 0:Nat))/\w.frozen? ⟨gf,i,none⟩=false/\
 ∀b:Nat,eQ base Z R (w.setCell ⟨gf,i,none⟩ (.int .u64 (b:Int))) N (fi.set i b) di pi/\Touch Z w (w.setCell ⟨gf,i,none⟩ (.int .u64 (b:Int))):=by
 obtain⟨t,u,gf,gd,s,l,d,n,r,q,p,a,m,k⟩:=h.ex;refine⟨gf,ah d 1 rfl,mF a 0 (by rw[h.lf];exact o),aC a i,fun b=>?_⟩;have c:Touch (·=gf) w (w.setCell ⟨gf,i,none⟩ (.int .u64 (b:Int))):=Touch.set (S:=(·=gf)) gf i _ rfl;refine⟨⟨h.lN,by rw[G4];exact h.lf,h.ld,h.lp,fun j g=>⟨(h.low j g).1,Hh (h.low j g).2 c.size⟩,h.zR,t,u,gf,gd,s,l,c.row d (eh d a (by decide)),n,r,q,p.other a (by decide) (by decide) c,ku (f:=u64v) a b,c.row m (eh m a (by decide)),c.row k (eh k a (by decide))⟩,c.mono fun j _ e=>by rw[show j=gf from e];exact n⟩
theorem eQ.n(h:eQ base Z R w N fi di pi){i:Nat}(t:i<16):∃a r u,w.cell? ⟨R,0,none⟩=some (.slice (some ⟨a,0,none⟩) 16 r)/\w.cell? ⟨a,i*2,none⟩=some (.int .u64 ((N.getD i (0,[])).1:Int))/\w.cell? ⟨a,i*2+1,none⟩=some u/\w.frozen? ⟨a,i*2,none⟩=false/\w.frozen? ⟨a,i*2+1,none⟩=false/\Own base w u (N.getD i (0,[])).2/\
 ∀(k:Nat)(x:Value)(m:List Nat)(p:Nat->Prop),Own base w x m->(∀j,Z j->p j)->(∀j,x.ownBlock=some j->p j)->(∀j,p j->base<=j/\j<w.heap.size)->eQ base p R ((w.setCell ⟨a,i*2,none⟩ (.int .u64 (k:Int))).setCell ⟨a,i*2+1,none⟩ x) (N.set i (k,m)) fi di pi/\Touch Z w ((w.setCell ⟨a,i*2,none⟩ (.int .u64 (k:Int))).setCell ⟨a,i*2+1,none⟩ x):=by
 obtain⟨a,r,gf,gd,O,l,v,M,L,K,d,E,D,C⟩:=h.ex;have hl:l.length=16:=by rw[d.len];exact h.lN
 have B:=d.own.aP;rw[show(16:Nat)=l.length from hl.symm]at B;obtain⟨G,F⟩:=B.at i (by omega);rw[H8]at G F;obtain⟨cur,b⟩:∃cur,w.heap[a]?=some (.cells cur 59 (0,0)):=by
  rcases d.own.2 with⟨q,-⟩|⟨g,cap,cur,q,A,J,-⟩
  ·cases q
  ·simp only[Hc,GO,Im,Jj]at q;rw[q.1];exact⟨cur,J⟩
 refine⟨a,r,(l.getD i dP).2,ah v 0 rfl,by rw[G,d.key i (by rw[h.lN];exact t)],F,aC b _,aC b _,d.body i (by rw[h.lN];exact t),fun k x m p I hz s c=>?_⟩;have o:=d;rw[show(16:Nat)=N.length from h.lN.symm]at o;obtain⟨Q,y,H,P⟩:=o.stored (k:=k) (i:=i) (by rw[h.lN];exact t) I;have f:Touch (·=a) w ((w.setCell ⟨a,i*2,none⟩ (.int .u64 (k:Int))).setCell ⟨a,i*2+1,none⟩ x):=(Touch.set (S:=(·=a)) a (i*2) _ rfl).trans (Touch.set (S:=(·=a)) a (i*2+1) _ rfl);rw[h.lN]at y;refine⟨⟨by rw[G4];exact h.lN,h.lf,h.ld,h.lp,fun j z=>⟨(c j z).1,Hh (c j z).2 f.size⟩,hz R h.zR,a,r,gf,gd,O,_,f.row v (eh v b (by decide)),hz _ M,hz _ L,hz _ K,y.mono fun g A=>(H g A).elim (hz g) (s g),f.row E (eh E b (by decide)),f.row D (eh D b (by decide)),f.row C (eh C b (by decide))⟩,f.mono fun j _ e=>by rw[show j=a from e];exact d.row a rfl⟩
end
theorem ny{w:World}{o:Oper}{a:Act}{K:Act->World->Prop}{Q:Exit->Act->World->Prop}(s x:Operand)
 (D:o.op=.call {callee:=.builtin .append,args:=#[s,x],argTypes:=#[36,36]})
 (base:Nat) (v:Value) (l1:List Pp) (hs:a.eval s=v) (i:gE base w v l1)
 (g n cap:Nat) (b:List Pp) (E:n=b.length) (C:a.eval x=.slice (some ⟨g,0,none⟩) n cap) (G:∀j,j<b.length*2->w.cell? ⟨g,0+j,none⟩=(cR b)[j]?) (l:∀x∈b,x.2.oneCell'=true) (hlen:l1.length+b.length<=1000000) (f:base<=w.heap.size)
 (h:∀p w',gE base w' p (l1++b)->Below base w w'->w.grownBy w' v.ownBlock->K (a.put o.dst p) w'):o.wp Tryz.prog a w K Q:=by
 obtain⟨i0,F,t,r,q⟩:=info_parts DN;subst E;refine wp_append_own w s x 36 D base 59 i0 (.agg #[.int .u64 0,.slice none 0 0]) 2 32 Tryz.underlying36 F t r q rfl (by decide) v l1.length (cR l1) hs i ⟨g,0,none⟩ b.length cap (cR b) C (iJ _) ?_ (vL b l) (by unfold maxLen;omega) (by omega) f ?_
 ·intro j u z;have y:j<b.length*2:=by
   rcases Hi j (b.length*2)with A|A
   ·exact A
   ·rw[He (by rw[iJ];exact A)]at z;simp at z
  have m:(⟨g,0,none⟩:Addr).add j=⟨g,0+j,none⟩:=by unfold Addr.add;split<;>simp_all
  rw[m,G j y,z]
 ·intro p w' d e _;rw[<-pR,<-GI]at d;refine h p w' d ((GF _ _).grown e f ?_) e;intro k B;rcases i.2 with⟨rfl,_⟩|⟨g,c,cur,rfl,H,_⟩
  ·simp[Value.ownBlock]at B
  ·simp only[Value.ownBlock,GO]at B;omega
theorem et(D:Nat->Bool)(k:Nat):Ord.bB D k k=true:=GU rfl
theorem bf(D:Nat->Bool){k j:Nat}(h:j≠k):Ord.bB D k j=D j:=GQ h
theorem gJ(xs:Nat->Value)(k:Nat)(v:Value):Ord.set xs k v k=v:=GU rfl
theorem cL(xs:Nat->Value){k j:Nat}(v:Value)(h:j≠k):Ord.set xs k v j=xs j:=GQ h
def BK(R:Nat)(sv:Value)(i:Nat):Prop:=i=R\/sv.ownBlock=some i
def ja(R a:Nat)(sv:Value)(i:Nat)(v:Value)(w:World):Prop:=
 match i with
 |0=>v=.pointer (some ⟨R,0,none⟩)
 |1=>v=.pointer (some ⟨R,0,none⟩)
 |2=>v=.pointer (some ⟨R,0,none⟩)
 |3=>v=.pointer (some ⟨R,0,none⟩)
 |4=>v=sv
 |5=>∃p c,v=ed 0 (.slice p 500 c)/\Own a w (.slice p 500 c) (Pg.aY 500)
 |6=>∃p c g,v=.slice (some ⟨g,0,none⟩) 1 1/\a<=g/\w.heap[g]?=some (.cells #[.int .u64 0,.slice p 500 c] 59 (0,0))/\Own a w (.slice p 500 c) (Pg.aY 500)
 |8=>v=.pointer (some ⟨R,0,none⟩)
 |9=>v=.pointer (some ⟨R,0,none⟩)
 |_=>True
theorem yF(R a:Nat)(sv:Value)(hlt:∀i,BK R sv i->i<a)(i:Nat)(v:Value)(w w':World)(e:Touch (BK R sv) w w')(h:ja R a sv i v w):ja R a sv i v w':=by
 have f:∀{u l},Own a w u l->Own a w' u l:=fun{u l}hu=>hu.aj e fun g j hs=>by
  have:=hlt g hs;have:=(World.ownsRow.lt hu.own g j).1;omega
 unfold ja at*
 split at h
 ·exact h
 ·exact h
 ·exact h
 ·exact h
 ·exact h
 ·obtain⟨p,c,d,b⟩:=h;exact⟨p,c,d,f b⟩
 ·obtain⟨p,c,g,d,b,m,k⟩:=h;exact⟨p,c,g,d,b,e.row m fun hs=>by have:=hlt g hs;omega,f k⟩
 ·exact h
 ·exact h
 ·trivial
structure gj(base R k:Nat)(W:World)(sv a b c:Value)(l:List Pp)(D:Nat->Bool)(xs:Nat->Value)(w:World):Prop where
 zm:Touch (BK R sv) W w
 fb:D 7=false->Below W.heap.size W w
 row:D 10=false->w.heap[R]?=some (.cells #[sv,a,b,c] 40 (0,0))
 old:D 7=false->fg base (fun i=>base<=i) w sv l (List.replicate k Po.blank)
 app:D 7=true->∃d,fg base (fun i=>base<=i) w (xs 7) d (List.replicate (k+1) Po.blank)
 fin:D 10=true->w.heap[R]?=some (.cells #[xs 7,a,b,c] 40 (0,0))
section
variable{base R k:Nat}{W w w':World}{sv a b c u:Value}{l:List Pp}{D:Nat->Bool}{xs:Nat->Value}
theorem gj.first(d:W.heap[R]?=some (.cells #[sv,a,b,c] 40 (0,0)))(hp:fg base (fun i=>base<=i) W sv l (List.replicate k Po.blank))(xs:Nat->Value):gj base R k W sv a b c l (fun _=>false) xs W.drew:=
 ⟨(Touch.refl _ _).drew,fun _=>(GF _ _).ij,fun _=>d,fun _=>hp.below (GF _ _).ij,fun h=>(by cases h),fun h=>(by cases h)⟩
theorem gj.skip(h:gj base R k W sv a b c l D xs w)(j:Nat)(d:(j !=7&&j !=10)=true):gj base R k W sv a b c l (Ord.bB D j) (Ord.set xs j u) w:=by
 simp only[Hs,IZ]at d;have g:∀i,j≠i->Ord.bB D j i=D i/\Ord.set xs j u i=xs i:=fun i e=>⟨bf D (H4 e),cL xs u (H4 e)⟩
 refine⟨h.zm,?_,?_,?_,?_,?_⟩
 ·rw[(g 7 d.1).1];exact h.fb
 ·rw[(g 10 d.2).1];exact h.row
 ·rw[(g 7 d.1).1];exact h.old
 ·rw[(g 7 d.1).1,(g 7 d.1).2];exact h.app
 ·rw[(g 10 d.2).1,(g 7 d.1).2];exact h.fin
theorem gj.new(h:gj base R k W sv a b c l D xs w)(j:Nat)(e:(j !=7&&j !=10)=true)(g:D 7=false)(d:D 10=false)(f:Below w.heap.size w w'):gj base R k W sv a b c l (Ord.bB D j) (Ord.set xs j u) w':=by
 have hs:=h.skip (u:=u) j e;simp only[Hs,IZ]at e;have m:Ord.bB D j 7=D 7:=bf D (H4 e.1);have i:Ord.bB D j 10=D 10:=bf D (H4 e.2);refine⟨h.zm.trans (Touch.ax f),fun a=>(h.fb g).trans (f.mono (h.fb g).size),fun a=>?_,fun a=>(h.old g).below f,fun a=>?_,fun a=>?_⟩
 ·rw[f.block R (GN (h.row d))];exact h.row d
 ·rw[m,g]at a;cases a
 ·rw[i,d]at a;cases a
theorem gj.FD(h:gj base R k W sv a b c l D xs w)(n:D 7=false)(d:D 10=false)(hR:sv.ownBlock≠some R)(f:w.grownBy w' sv.ownBlock){g:List Pp}(hp:fg base (fun i=>base<=i) w' u g (List.replicate (k+1) Po.blank)):gj base R k W sv a b c l (Ord.bB D 7) (Ord.set xs 7 u) w':=by
 have j:Touch (BK R sv) w w':=⟨f.os,f.tape,f.output,f.size,fun i m hs=>f.block i m fun e=>hs (GL e.symm)⟩
 refine⟨h.zm.trans j,fun a=>?_,fun a=>?_,fun a=>?_,fun _=>⟨g,by rw[gJ];exact hp⟩,fun a=>?_⟩
 ·rw[et]at a;cases a
 ·rw[f.block R (GN (h.row d)) (H4 hR)];exact h.row d
 ·rw[et]at a;cases a
 ·rw[bf D (by decide),d]at a;cases a
theorem gj.EB(h:gj base R k W sv a b c l D xs w)(d:D 7=true)(f:D 10=false):gj base R k W sv a b c l (Ord.bB D 10) (Ord.set xs 10 u) (w.setCell ⟨R,0,none⟩ (xs 7)):=by
 have j:=h.row f;have g:Touch (·=R) w (w.setCell ⟨R,0,none⟩ (xs 7)):=Touch.set (S:=(·=R)) R 0 _ rfl;have hs:=aN (i:=0) j (xs 7);refine⟨h.zm.trans (g.mono fun i _ e=>GJ e),fun a=>?_,fun a=>?_,fun a=>?_,fun _=>?_,fun _=>?_⟩
 ·rw[bf D (by decide),d]at a;cases a
 ·rw[et]at a;cases a
 ·rw[bf D (by decide),d]at a;cases a
 ·obtain⟨m,hp⟩:=h.app d;rw[cL xs u (by decide)];exact⟨m,hp.other j (by decide) (by decide) g⟩
 ·rw[cL xs u (by decide)];exact hs
end
def yJ(a:Nat)(i:Nat)(v:Value)(w:World):Prop:=
 match i with
 |0=>v=.int .i64 16
 |1=>Made 56 (.int .u64 0) a w v
 |2=>v=.int .i64 16
 |3=>Made 4 (.bool false) a w v
 |4=>v=.int .i64 16
 |5=>Made 3 (.int .i64 0) a w v
 |6=>CA a w v
 |7=>BH a w v
 |8=>BH a w v
 |_=>True
theorem yI(a:Nat)(i:Nat)(v:Value)(w w':World)(b:Below w.heap.size w w')(h:yJ a i v w):yJ a i v w':=by
 unfold yJ at*
 split at h<;>first|exact h|exact h.below b|trivial
set_option maxHeartbeats 1600000 in
set_option maxRecDepth 20000 in
theorem uT(w:World):Calls Tryz.prog 9 #[.int .i64 16] w fun e w'=>∃R Z,e=.returned (.pointer (some ⟨R,0,none⟩))/\eQ w.heap.size Z R w' (List.replicate 16 Po.blank) (List.replicate 16 0) (List.replicate 16 false) (List.replicate 16 0)/\Below w.heap.size w w':=by
 go_enter Tryz.func9,Tryz.ntmps9;go_upto_region 1 with(fail)
 refine Ord.walk (yJ w.heap.size) (fun _ _ w'=>Below w.heap.size w w') (fun a b=>Below a.heap.size a b)
  (by kernel_rfl) (by kernel_rfl) ?fr ?hfr (fun i v w w' q h=>yI _ i v w w' q h) (fun xs=>(GF _ _).ij) ?he ?hend
 case hfr=>
  intro xs;simp only[Ord.fill,Act.put,GP,GX,GV];rfl
 case he=>
  iterate 9 (refine Ord.aa (fun D xs w2 B hC hP hR f K n=>?_) ?_;rotate_left)
  rotate_left
  ·clear f;go_simp;exact n _ _ ⟨_,rfl,GF _ _,hR,rfl⟩
  ·have q0:=Ord.ab _ f 0 (by decide);simp only[yJ]at q0;simp only[q0]at n;clear f;go_simp;rw[DL w2];exact n _ _ ⟨_,rfl,ae _ _,hR.trans ((ae _ _).mono hR.size),oE hR.size⟩
  ·clear f;go_simp;exact n _ _ ⟨_,rfl,GF _ _,hR,rfl⟩
  ·have q2:=Ord.ab _ f 2 (by decide);simp only[yJ]at q2;simp only[q2]at n;clear f;go_simp;rw[EH w2];exact n _ _ ⟨_,rfl,ae _ _,hR.trans ((ae _ _).mono hR.size),oE hR.size⟩
  ·clear f;go_simp;exact n _ _ ⟨_,rfl,GF _ _,hR,rfl⟩
  ·have Y:=Ord.ab _ f 4 (by decide);simp only[yJ]at Y;simp only[Y]at n;clear f;go_simp;rw[EG w2];exact n _ _ ⟨_,rfl,ae _ _,hR.trans ((ae _ _).mono hR.size),oE hR.size⟩
  ·have U:=Ord.ab _ f 1 (by decide);simp only[yJ]at U;have T:=Ord.ab _ f 3 (by decide);simp only[yJ]at T;have Q:=Ord.ab _ f 5 (by decide);simp only[yJ]at Q;clear f;obtain⟨g1,e1,l1,r1⟩:=U.ex;obtain⟨g3,e3,l3,r3⟩:=T.ex;obtain⟨g5,e5,l5,r5⟩:=Q.ex;have h1:Made 56 (.int .u64 0) w.heap.size w2 (.slice (some ⟨g1,0,none⟩) 16 16):=⟨g1,rfl,l1,r1⟩
   have h3:Made 4 (.bool false) w.heap.size w2 (.slice (some ⟨g3,0,none⟩) 16 16):=⟨g3,rfl,l3,r3⟩
   have h5:Made 3 (.int .i64 0) w.heap.size w2 (.slice (some ⟨g5,0,none⟩) 16 16):=⟨g5,rfl,l5,r5⟩
   clear U T Q r1 r3 r5;simp only[e1,e3,e5]at n;go_simp;exact n _ _ ⟨_,rfl,GF _ _,hR,⟨⟨_,_,_,rfl,h1,h3,h5⟩⟩⟩
  ·have X:=Ord.ab _ f 6 (by decide);simp only[yJ]at X;obtain⟨⟨a,b,c,e,qa,qb,qc⟩⟩:=X;clear f;rw[e]at n;go_simp;exact n _ _ ⟨_,rfl,ae _ _,hR.trans ((ae _ _).mono hR.size),⟨⟨w2.heap.size,a,b,c,rfl,hR.size,GM _ _,qa.below (ae _ _),qb.below (ae _ _),qc.below (ae _ _)⟩⟩⟩
  ·have q7:=Ord.ab _ f 7 (by decide);simp only[yJ]at q7;clear f;go_simp;exact n _ _ ⟨_,rfl,GF _ _,hR,q7⟩
  exact Ord.ay
 case hend=>
  intro D xs w9 hR V;have L:=(V 8 (by decide)).2;simp only[yJ]at L;clear V;generalize xs 0=x0 at*
  generalize xs 1=x1 at*
  generalize xs 2=x2 at*
  generalize xs 3=x3 at*
  generalize xs 4=x4 at*
  generalize xs 5=x5 at*
  generalize xs 6=x6 at*
  generalize xs 7=x7 at*
  generalize xs 8=x8 at*
  obtain⟨R,a,b,c,hv,an,d,⟨ga,rfl,al,ha⟩,⟨gb,rfl,ak,q⟩,⟨gc,rfl,aj,hc⟩⟩:=L.ex;subst hv;have m:=GD d;have HA:Hid (_/\_):=⟨al,ha⟩
  have HB:Hid (_/\_):=⟨ak,q⟩
  have HC:Hid (_/\_):=⟨aj,hc⟩
  have M:=GD an;have y:=GD hR;clear L d ha q hc al ak aj an hR;obtain⟨base,t⟩:∃b,b=w.heap.size:=⟨_,rfl⟩
  rw[<-t]at HA HB HC M y;have P:=GD t;clear t;go_wp2_with fail
  go_loopw [4] (fun iv wr=>∃(k:Nat)(sp:Option Addr)(r:Nat)(l:List Pp),k<=16/\iv=.int .i64 (k:Int)/\wr.heap[R]?=some (.cells #[.slice sp k r,.slice (some ⟨ga,0,none⟩) 16 16,.slice (some ⟨gb,0,none⟩) 16 16,.slice (some ⟨gc,0,none⟩) 16 16] 40 (0,0))/\fg base (fun i=>base<=i) wr (.slice sp k r) l (List.replicate k Po.blank)/\(wr.heap[ga]?=some (.cells (List.replicate 16 (.int .u64 0)).toArray 56 (0,0))/\wr.heap[gb]?=some (.cells (List.replicate 16 (.bool false)).toArray 4 (0,0))/\wr.heap[gc]?=some (.cells (List.replicate 16 (.int .i64 0)).toArray 3 (0,0)))/\Below base w wr) (fun iv _=>16-(intOf iv).toNat)
  case atStart=>exact⟨0,none,0,[],G7 _,rfl,m.out,Af _ _ _,⟨HA.out.2,HB.out.2,HC.out.2⟩,y.out⟩
  case round=>
   clear m y;obtain⟨k,sp,r,l,hk,rfl,d,ag,h3,q⟩:=hrel;have m:=GD d;have o:=GD ag;have z:=GD h3;have y:=GD q;have ar:=GD hk;have O:Hid (base<=wr.heap.size):=by show base<=_;have:=q.size;have:=P.out;omega
   clear d ag h3 q hk;by_cases hlt:k<16
   ·have N:=GD hlt;have aE:(k:Int)<16:=by omega
    obtain⟨sa,J⟩:∃v,v=Value.slice (some ⟨ga,0,none⟩) 16 16:=⟨_,rfl⟩
    obtain⟨sb,I⟩:∃v,v=Value.slice (some ⟨gb,0,none⟩) 16 16:=⟨_,rfl⟩
    obtain⟨sd,H⟩:∃v,v=Value.slice (some ⟨gc,0,none⟩) 16 16:=⟨_,rfl⟩
    rw[<-J,<-I,<-H]at m;have au:Hid (∀i,BK R (.slice sp k r) i->i<wr.heap.size):=fun i E=>by
     rcases E with e|e
     ·rw[e];exact GN m.out
     ·exact(World.ownsRow.lt o.out.own i e).2
    have aq:Hid ((Value.slice sp k r).ownBlock≠some R):=fun e=>o.out.own.px m.out (by decide) R e rfl;go_upto_region 5 with(fail)
    refine Ord.walk (ja R wr.heap.size (.slice sp k r)) (fun D xs w'=>gj base R k wr (.slice sp k r) sa sb sd l D xs w') (fun a b=>Touch (BK R (.slice sp k r)) a b)
     (by kernel_rfl) (by kernel_rfl) ?fr2 ?hfr2 (fun i v w w' q h=>yF _ _ _ au.out i v w w' q h) (fun xs=>gj.first m.out o.out xs) ?he2 ?hend2
    case hfr2=>
     intro xs;simp only[Ord.fill,Act.put,GP,GX,GV];rfl
    case he2=>
     iterate 11 (refine Ord.aa (fun D xs w2 B hC hP hR f K n=>?_) ?_;rotate_left)
     rotate_left
     ·clear f;go_simp;exact n _ _ ⟨_,rfl,Touch.refl _ _,hR.skip 0 (by decide),rfl⟩
     ·clear f;go_simp;exact n _ _ ⟨_,rfl,Touch.refl _ _,hR.skip 1 (by decide),rfl⟩
     ·have U:=Ord.ab _ f 1 (by decide);simp only[ja]at U;simp only[U]at n;clear f;go_simp;exact n _ _ ⟨_,rfl,Touch.refl _ _,hR.skip 2 (by decide),rfl⟩
     ·have q2:=Ord.ab _ f 2 (by decide);simp only[ja]at q2;simp only[q2]at n;clear f;go_simp;exact n _ _ ⟨_,rfl,Touch.refl _ _,hR.skip 3 (by decide),rfl⟩
     ·have T:=Ord.ab _ f 3 (by decide);simp only[ja]at T;simp only[T]at n;clear f;have x:D 10=false:=by
       cases hx:D 10 with
       |false=>rfl
       |true=>exact absurd (Ord.af hC 7 4 rfl (Ord.af hC 10 7 rfl hx)) (by rw[B];decide)
      have cc:=ah (hR.row x) 0 (v:=.slice sp k r) rfl;go_simp;exact n _ _ ⟨_,rfl,Touch.refl _ _,hR.skip 4 (by decide),rfl⟩
     ·clear f;have W:D 7=false:=by
       cases hx:D 7 with
       |false=>rfl
       |true=>exact absurd (Ord.af hC 7 5 rfl hx) (by rw[B];decide)
      have x:D 10=false:=by
       cases hx:D 10 with
       |false=>rfl
       |true=>exact absurd (Ord.af hC 7 5 rfl (Ord.af hC 10 7 rfl hx)) (by rw[B];decide)
      go_simp;refine(rb w2).mono ?_;rintro e w'⟨u,rfl,hO,q⟩;obtain⟨p,c,rfl⟩:∃p c,u=.slice p 500 c:=by
       obtain⟨p,c,e,-⟩:=hO.aP.form;rw[Pg.bQ]at e;exact⟨p,c,e⟩
      exact n _ _ ⟨_,rfl,Touch.ax q,hR.new 5 (by decide) W x q,⟨p,c,rfl,hO.from hR.zm.size⟩⟩
     ·have Q:=Ord.ab _ f 5 (by decide);simp only[ja]at Q;obtain⟨p,c,e5,ho⟩:=Q;clear f;have W:D 7=false:=by
       cases hx:D 7 with
       |false=>rfl
       |true=>exact absurd (Ord.af hC 7 6 rfl hx) (by rw[B];decide)
      have x:D 10=false:=by
       cases hx:D 10 with
       |false=>rfl
       |true=>exact absurd (Ord.af hC 7 6 rfl (Ord.af hC 10 7 rfl hx)) (by rw[B];decide)
      simp only[e5]at n;have q:=ae w2 (.cells #[.int .u64 0,.slice p 500 c] 59);go_simp;exact n _ _ ⟨_,rfl,Touch.ax q,hR.new 6 (by decide) W x q,⟨p,c,w2.heap.size,rfl,hR.zm.size,GM _ _,ho.below q⟩⟩
     ·have Y:=Ord.ab _ f 4 (by decide);simp only[ja]at Y;have X:=Ord.ab _ f 6 (by decide);simp only[ja]at X;obtain⟨p,c,g,e6,hg,d,ho⟩:=X;clear f;have x:D 10=false:=by
       cases hx:D 10 with
       |false=>rfl
       |true=>exact absurd (Ord.af hC 10 7 rfl hx) (by rw[B];decide)
      have hold:=hR.old B;refine ny (.tmp 22) (.tmp 24) rfl base (.slice sp k r) l (by show xs 4=_;exact Y) hold.own g 1 1 [(0,.slice p 500 c)] rfl (by show xs 6=_;exact e6) ?_ (by simp[Value.oneCell']) (by rw[hold.len,G9,I1];have:=ar.out;omega) (GR O.out hR.zm.size) ?_
      ·intro j hj;have aF:j<2:=hj;obtain rfl|rfl:j=0\/j=1:=by omega
       ·exact ah d 0 rfl
       ·exact ah d 1 rfl
      ·intro v' w' av aG s;have hs:=hold.snoc av s (ho.from O.out);rw[show List.replicate k Po.blank++[(0,Pg.aY 500)]=List.replicate (k+1) Po.blank from List.replicate_succ'.symm]at hs;have ht:Touch (BK R (.slice sp k r)) w2 w':=⟨s.os,s.tape,s.output,s.size,fun i E hs=>s.block i E fun e=>hs (GL e.symm)⟩
       exact n _ _ ⟨_,rfl,ht,hR.FD B x aq.out s (hs.mono fun i E=>E.1),trivial⟩
     ·have q0:=Ord.ab _ f 0 (by decide);simp only[ja]at q0;simp only[q0]at n;clear f;go_simp;exact n _ _ ⟨_,rfl,Touch.refl _ _,hR.skip 8 (by decide),rfl⟩
     ·have q8:=Ord.ab _ f 8 (by decide);simp only[ja]at q8;simp only[q8]at n;clear f;go_simp;exact n _ _ ⟨_,rfl,Touch.refl _ _,hR.skip 9 (by decide),rfl⟩
     ·have q9:=Ord.ab _ f 9 (by decide);simp only[ja]at q9;simp only[q9]at n;clear f;have W:D 7=true:=hP {on:=7,ground:=.data} (by simp) rfl;obtain⟨l',hp⟩:=hR.app W;have hlen:l'.length=k+1:=by rw[hp.len,G9]
      obtain⟨g7,c7,e7⟩:∃g c,xs 7=.slice (some ⟨g,0,none⟩) (k+1) c:=by
       rcases hp.own.form with⟨-,h0⟩|⟨g,c,h,-⟩
       ·rw[h0]at hlen;simp at hlen
       ·rw[hlen]at h;exact⟨g,c,h⟩
      have f0:=aC (hR.row B) 0;have c0:=ah (hR.row B) 0 (v:=.slice sp k r) rfl;have F:=hR.EB (u:=undef) W B;have ad:Touch (BK R (.slice sp k r)) w2 (w2.setCell ⟨R,0,none⟩ (xs 7)):=Touch.set (S:=BK R (.slice sp k r)) R 0 _ (GJ rfl);simp only[e7]at n F ad;clear hp;go_simp;exact n _ _ ⟨undef,rfl,ad,F,trivial⟩
     exact Ord.ay
    case hend2=>
     intro D xs w9 hR V;have ao:=(V 7 (by decide)).1;have G:=(V 10 (by decide)).1;obtain⟨l',hp⟩:=hR.app ao;have d:=hR.fin G;have hlen:l'.length=k+1:=by rw[hp.len,G9]
     obtain⟨g7,c7,e7⟩:∃g c,xs 7=.slice (some ⟨g,0,none⟩) (k+1) c:=by
      rcases hp.own.form with⟨-,h0⟩|⟨g,c,h,-⟩
      ·rw[h0]at hlen;simp at hlen
      ·rw[hlen]at h;exact⟨g,c,h⟩
     rw[e7]at hp d;rw[J,I,H]at d;have C:∀{g A S},wr.heap[g]?=some (.cells A S (0,0))->40≠S->59≠S->¬BK R (.slice sp k r) g:=fun{g A S}hg h1 h2 hs=>by
      rcases hs with e|e
      ·exact eh m.out hg h1 e.symm
      ·exact o.out.own.px hg h2 g e rfl
     have aw:=GD d;have az:=GD hp;have aB:Hid (_/\_/\_):=⟨hR.zm.row z.out.1 (C z.out.1 (by decide) (by decide)),hR.zm.row z.out.2.1 (C z.out.2.1 (by decide) (by decide)),hR.zm.row z.out.2.2 (C z.out.2.2 (by decide) (by decide))⟩
     have aA:Hid (Below base w w9):=y.out.trans (hR.zm.below (fun i E=>by
      rcases E with e|e
      ·rw[e];exact M.out
      ·exact(World.ownsRow.lt o.out.own i e).1) O.out)
     clear V hR hp d hlen e7 C m o z y ao G J I H au aq;generalize xs 0=x0 at*
     generalize xs 1=x1 at*
     generalize xs 2=x2 at*
     generalize xs 3=x3 at*
     generalize xs 4=x4 at*
     generalize xs 5=x5 at*
     generalize xs 6=x6 at*
     generalize xs 7=x7 at*
     generalize xs 8=x8 at*
     generalize xs 9=x9 at*
     have aD:=GW ((k:Int)+1) (by have:=N.out;omega);go_wp2_with fail
     go_roundw
     case rel=>exact⟨k+1,some ⟨g7,0,none⟩,c7,l',N.out,by go_num,aw.out,az.out,aB.out,aA.out⟩
     case measure=>have:=N.out;simp[intOf];omega
   ·obtain rfl:k=16:=by have:=ar.out;omega
    clear hlt;have hlen:l.length=16:=by rw[o.out.len,G9]
    obtain⟨gn,cn,ai⟩:∃gn cn,Value.slice sp 16 r=.slice (some ⟨gn,0,none⟩) 16 cn:=by
     rcases o.out.own.form with⟨-,h0⟩|⟨g,c,h,-⟩
     ·rw[h0]at hlen;simp at hlen
     ·rw[hlen]at h;exact⟨g,c,h⟩
    rw[ai]at m o;clear ai hlen;go_wp2_with fail
    go_ret;refine⟨R,fun i=>base<=i/\i<wr.heap.size,rfl,?_,by rw[<-P.out];exact y.out⟩;rw[<-P.out];exact⟨G9,G9,G9,G9,fun i E=>E,⟨M.out,GN m.out⟩,gn,cn,ga,gb,gc,l,m.out,⟨HA.out.1,GN z.out.1⟩,⟨HB.out.1,GN z.out.2.1⟩,⟨HC.out.1,GN z.out.2.2⟩,o.out.new,z.out.1,z.out.2.1,z.out.2.2⟩
end Go.Proofs.YtbpodmallknhfaaGreat
