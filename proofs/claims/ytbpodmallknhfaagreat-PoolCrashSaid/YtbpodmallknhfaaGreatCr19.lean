/- Parts of a proof. Conditions: as each row says. -/
import Derived.Test.YtbpodmallknhfaaGreatCr03
import Derived.Test.YtbpodmallknhfaaGreatCr01
import Derived.Test.YtbpodmallknhfaaGreatCr07
import Derived.Test.YtbpodmallknhfaaGreatCr09
import Derived.Test.YtbpodmallknhfaaGreatCr10
import Derived.Test.YtbpodmallknhfaaGreatCr14
import Derived.Test.YtbpodmallknhfaaGreatCr08
import Derived.WideShapes
import Derived.BigQuiet
import Derived.Deep.QuietTactic
import Derived.StillTailTactics
import Derived.IntWalk
import Derived.Test.YtbpodmallknhfaaGreatRows
import Derived.WalkKit
import Derived.WalkSpells
import Derived.WalkLawsBesides
import Derived.Lib.Hide
import Derived.Deep.WholeRow
import Derived.Laws.AppendOwnNone
import Derived.Laws.MakeOwn
import Derived.Laws.OwnMore
import Derived.OneCell
import Derived.OwnWalk
import Derived.Below
import Derived.KernelRfl
import Derived.Maps.AppendAt
namespace Go.Proofs.YtbpodmallknhfaaGreat.Pg
open Go.Proofs.YtbpodmallknhfaaGreat.aw
theorem two32:(2:Nat)^32=4294967296:=by decide
def bm(n:Nat):List Nat:=List.replicate n 0
def rest(n:Nat)(l:List Nat):List Nat:=le 8 n++l
def form(n:Nat)(l:List Nat):List Nat:=le 4 (dK.more 0 (rest n l))++rest n l
def cD(b:List Nat):Nat:=if b.length≠512 then 2 else if b=bm 512 then 0 else if num (b.take 4)≠dK.more 0 (b.drop 4)then 14 else 0
def cC(b:List Nat):Nat:=if cD b=0 then num ((b.drop 4).take 8)else 0
def cZ(b:List Nat):List Nat:=if cD b=0 then b.drop 12 else []
theorem bU(n:Nat):(bm n).length=n:=List.length_replicate
theorem jP(n:Nat):∀x∈bm n,x<256:=by
 intro x a;rw[List.eq_of_mem_replicate a];decide
theorem fK(n:Nat)(l:List Nat):(rest n l).length=8+l.length:=by unfold rest;rw[List.length_append,ao]
theorem bq(n:Nat)(l:List Nat):(form n l).length=12+l.length:=by unfold form;rw[List.length_append,ao,fK];omega
theorem lP{n:Nat}{l:List Nat}(h:∀x∈l,x<256):∀x∈rest n l,x<256:=by
 intro x a;rcases List.mem_append.1 a with a|a
 ·exact c7 _ _ x a
 ·exact h x a
theorem gA{n:Nat}{l:List Nat}(h:∀x∈l,x<256):∀x∈form n l,x<256:=by
 intro x a;rcases List.mem_append.1 a with a|a
 ·exact c7 _ _ x a
 ·exact lP h x a
theorem sc{l:List Nat}(h:∀x∈l,x<256):dK.more 0 l<4294967296:=by
 have:=dK.xB (s:=0) (by decide) h;rwa[two32]at this
theorem zv(n:Nat)(l:List Nat):(form n l).take 4=le 4 (dK.more 0 (rest n l)):=List.take_left' (ao _ _)
theorem mW(n:Nat)(l:List Nat):(form n l).drop 4=rest n l:=List.drop_left' (ao _ _)
theorem yC(n:Nat)(l:List Nat):(rest n l).take 8=le 8 n:=List.take_left' (ao _ _)
theorem yD(n:Nat)(l:List Nat):(rest n l).drop 8=l:=List.drop_left' (ao _ _)
theorem uJ(b:List Nat):b.drop 12=(b.drop 4).drop 8:=by rw[List.drop_drop]
theorem jx{n:Nat}{l:List Nat}(h:∀x∈l,x<256)(hl:l.length=500):cD (form n l)=0:=by
 unfold cD;rw[if_neg (by rw[bq,hl];decide)];split
 ·rfl
 ·rw[zv,mW,mO,Nat.mod_eq_of_lt (sc (lP h)),if_neg (by simp)]
theorem pc{n:Nat}{l:List Nat}(h:∀x∈l,x<256)(hl:l.length=500)(a:n<18446744073709551616):cC (form n l)=n:=by
 unfold cC;rw[if_pos (jx h hl),mW,yC,mO,Nat.mod_eq_of_lt a]
theorem pe{n:Nat}{l:List Nat}(h:∀x∈l,x<256)(hl:l.length=500):cZ (form n l)=l:=by
 unfold cZ;rw[if_pos (jx h hl),uJ,mW,yD]
theorem iA:cD (bm 512)=0:=by unfold cD;rw[if_neg (by rw[bU];decide),if_pos rfl]
theorem nC:cC (bm 512)=0:=by unfold cC;rw[if_pos iA];decide
theorem nD:cZ (bm 512)=bm 500:=by unfold cZ;rw[if_pos iA];unfold bm;rw[List.drop_replicate]
theorem pd{b:List Nat}(h:∀x∈b,x<256):∀x∈cZ b,x<256:=by
 intro x a;unfold cZ at a;split at a
 ·exact h x (List.mem_of_mem_drop a)
 ·simp at a
theorem sx{b:List Nat}(he:cD b=0):(cZ b).length=500:=by
 have hl:b.length=512:=by
  unfold cD at he;split at he
  ·cases he
  ·omega
 unfold cZ;rw[if_pos he,List.length_drop,hl]
theorem rf{b:List Nat}(he:cD b≠0):cZ b=[]:=if_neg he
theorem re{b:List Nat}(he:cD b≠0):cC b=0:=if_neg he
def Cl(n:Int)(i:Nat):Nat:=((n+i*7)%256).toNat
def eZ(n:Int):List Nat:=(List.range 500).map (Cl n)
theorem Ck(n:Int)(i:Nat):Cl n i<256:=by unfold Cl;omega
theorem eX(n:Int):(eZ n).length=500:=by simp[eZ]
theorem kb(n:Int):∀x∈eZ n,x<256:=by
 intro x a;obtain⟨i,-,rfl⟩:=List.mem_map.1 a;exact Ck n i
end Go.Proofs.YtbpodmallknhfaaGreat.Pg
namespace Go.Proofs.YtbpodmallknhfaaGreat
open Go.RowKit
abbrev fZ(n:Nat)(v:Value):Value:=.agg #[.int .u64 (n:Int),v]
theorem EB{a b:List Nat}(d:∀x∈a,x<256)(c:∀x∈b,x<256)(h:a≠b):((strOfNums (a.map fun x:Nat=>(x:Int))).toList==(strOfNums (b.map fun x:Nat=>(x:Int))).toList)=false:=by
 rw[beq_eq_false_iff_ne];intro e;rw[ByteArray.toList_eq,ByteArray.toList_eq]at e;exact h (str_inj d c (Go.WideShapes.bytes_inj e))
theorem zT(w:World)(b a:Obj):Below w.heap.size w ((w.alloc b).alloc a):=((Below.refl _ _).alloc (Nat.le_refl _) _).alloc (by simp) _
def bv(x:Nat):Value:=.int .u8 (x:Int)
theorem xx{base g:Nat}{w:World}{l:List Nat}(h:w.heap[g]?=some (.cells (l.map bv).toArray 5 (0,0)))(a:base<=g)(hs:∀x∈l,x<256)(hl:l.length<=140737488355328):Own base w (.slice (some ⟨g,0,none⟩) l.length l.length) l:=
 ⟨⟨by simp[af],Or.inr ⟨g,l.length,(l.map bv).toArray,rfl,a,h,Nat.le_refl _,by unfold maxLen;omega,by simp,by simp only[Nat.mul_one];rw[List.take_of_length_le (by simp)];rfl⟩⟩,hs,hl⟩
theorem Bx(z:Value)(n:Nat):madeCells #[z] n=(List.replicate n z).toArray:=by
 apply Array.ext';rw[toList_madeCells_one]
theorem fk(n:Nat)(f:n<=65536)(W:World):(Instr.makeSlice 57 (.int .i64 (n:Int)) (.int .i64 (n:Int))).run Tryz.prog W=.ok (.slice (some ⟨W.heap.size,0,none⟩) n n) (W.alloc (.cells ((Pg.bm n).map bv).toArray 5)):=by
 obtain⟨i0,d,c,a,b⟩:=info_parts ja;have h:=run_makeSlice (P:=Tryz.prog) W 57 5 i0 _ Tryz.underlying57 d c .i64 .i64 n n (by omega) (Int.le_refl _) (by rw[a];omega) (by rw[b];omega) (by omega);rw[Int.toNat_natCast,a,Nat.mul_one]at h;rw[h];have e:madeCells #[Value.int .u8 0] n=((Pg.bm n).map bv).toArray:=by
  rw[show((Pg.bm n).map bv).toArray=(List.replicate n (Value.int .u8 0)).toArray by unfold Pg.bm;rw[List.map_replicate];rfl];exact Bx _ n
 congr 3
theorem j4(n:Nat)(a:n<=65536)(W:World):Own W.heap.size (W.alloc (.cells ((Pg.bm n).map bv).toArray 5)) (.slice (some ⟨W.heap.size,0,none⟩) n n) (Pg.bm n):=by
 have h:=xx (base:=W.heap.size) (w:=W.alloc (.cells ((Pg.bm n).map bv).toArray 5)) (l:=Pg.bm n) (heap_alloc_last _ _) (Nat.le_refl _) (Pg.jP n) (by rw[Pg.bU];omega);rwa[Pg.bU]at h
theorem EG{w:World}{B:Nat}{a b x y:Value}{T:TypeId}(h:w.heap[B]?=some (.cells #[a,b] T (0,0))):
 ((w.setCell ⟨B,0,none⟩ x).setCell ⟨B,1,none⟩ y).heap[B]?=some (.cells #[x,y] T (0,0))/\w.grownBy ((w.setCell ⟨B,0,none⟩ x).setCell ⟨B,1,none⟩ y) (some B):=
 ⟨oF (oG h),ak (an _ _ _ _) (an _ _ _ _)⟩
set_option maxHeartbeats 400000 in
set_option maxRecDepth 20000 in
theorem sj(w:World):Calls Tryz.prog 22 #[] w fun e w'=>∃v,e=.returned (fZ 0 v)/\Own w.heap.size w' v (Pg.bm 500)/\Below w.heap.size w w':=by
 obtain⟨W,g⟩:∃W,W=w.alloc (.cells #[.int .u64 0,.slice none 0 0] 59):=⟨_,rfl⟩
 have b:(Instr.makeSlice 57 (.int .i64 500) (.int .i64 500)).run Tryz.prog (w.alloc (.cells #[.int .u64 0,.slice none 0 0] 59))=.ok (.slice (some ⟨(w.alloc (.cells #[.int .u64 0,.slice none 0 0] 59)).heap.size,0,none⟩) 500 500) _:=fk 500 (by decide) _;have q:=Lib.hid (j4 500 (by decide) W);have j:W.heap[w.heap.size]?=some (.cells #[.int .u64 0,.slice none 0 0] 59 (0,0)):=by rw[g];exact heap_alloc_last _ _
 have p:Below w.heap.size w W:=by rw[g];exact(Below.refl _ _).alloc (Nat.le_refl _) _
 have l:=lt_of_block j;rw[<-g]at b;obtain⟨k,d⟩:∃k,k=W.alloc (.cells ((Pg.bm 500).map bv).toArray 5):=⟨_,rfl⟩
 have c:Below W.heap.size W k:=by rw[d];exact(Below.refl _ _).alloc (Nat.le_refl _) _
 have a:k.heap[w.heap.size]?=some (.cells #[.int .u64 0,.slice none 0 0] 59 (0,0)):=by rw[c.block _ (lt_of_block j)];exact j
 rw[<-d]at b q;obtain⟨m,f⟩:=EG (x:=.int .u64 0) (y:=.slice (some ⟨W.heap.size,0,none⟩) 500 500) a;have i:=bc m;have h:=bI m;have r:=Lib.hid f;have o:=Lib.hid i;have n:=Lib.hid h;clear m f i h;go_enter Tryz.func22,Tryz.ntmps22;go_wp2_with fail
 rw[<-g,b];have c0:=bc a;have c1:=bI a;have f0:=cP a 0;have f1:=cP a 1;clear d b j a g;go_wp2_with fail
 have i:=o.out;have h:=n.out;refine bodyPost_ret (v:=fZ 0 (.slice (some ⟨W.heap.size,0,none⟩) 500 500)) (by simp[results,Tryz.results22,go_sem,i,h]) rfl ⟨_,rfl,?_,?_⟩
 ·exact(q.out.from (Nat.le_of_lt l)).grown r.out (Or.inr (by simp[Value.ownBlock];omega))
 ·exact aJ (p.trans (c.mono p.size)) r.out (by have:=c.size;omega) (Nat.le_refl _)
def Pg.same(b:Nat)(s:List Nat)(a:Nat)(t:List Nat):Bool:=decide (b=a/\s=t)
theorem Pg.AO{b a:Nat}{s t:List Nat}(h:b≠a):Pg.same b s a t=false:=decide_eq_false fun e=>h e.1
theorem Pg.yB{b a:Nat}{s t:List Nat}(h:s≠t):Pg.same b s a t=false:=decide_eq_false fun e=>h e.2
theorem Pg.qQ(n:Nat)(s:List Nat):Pg.same n s n s=true:=decide_eq_true ⟨rfl,rfl⟩
set_option maxHeartbeats 1600000 in
set_option maxRecDepth 20000 in
theorem tI(k1 k2:Nat)(g f:Value)(s t:List Nat)(w:World)(d:aV w g s)(c:aV w f t):
 Calls Tryz.prog 34 #[fZ k1 g,fZ k2 f] w fun e w'=>e=.returned (.bool (Pg.same k1 s k2 t))/\Below w.heap.size w w':=by
 have b:=Lib.hid (zT w (.cells #[.int .u64 (k1:Int),g] 59) (.cells #[.int .u64 (k2:Int),f] 59));have m:=fi (d.below b.out);have l:=fi (c.below b.out);have a:=fun h=>EB d.small c.small h;obtain⟨o,d1,rfl,-,-,-⟩:=d.form;obtain⟨n,d2,rfl,-,-,-⟩:=c.form;clear d c;by_cases i:k1=k2
 ·subst i;by_cases hs:s=t
  ·subst hs;rw[Pg.qQ];clear a;generalize strOfNums (s.map fun x:Nat=>(x:Int))=S at*
   go_enter Tryz.func34,Tryz.ntmps34;go_wp2_with fail
   go_ret;exact⟨rfl,b.out⟩
  ·rw[Pg.yB hs];have p:=a hs;clear a;generalize strOfNums (s.map fun x:Nat=>(x:Int))=S at*
   generalize strOfNums (t.map fun x:Nat=>(x:Int))=T at*
   go_enter Tryz.func34,Tryz.ntmps34;go_wp2_with fail
   go_ret;exact⟨rfl,b.out⟩
 ·rw[Pg.AO i];have k:¬(k1:Int)=(k2:Int):=by omega
  have j:((k1:Int)==(k2:Int))=false:=by rw[beq_eq_false_iff_ne];omega
  clear m l a;go_enter Tryz.func34,Tryz.ntmps34;go_wp2_with fail
  go_ret;exact⟨rfl,b.out⟩
theorem Pg.CV{α:Type}(A l:List α)(k:Nat)(x:α)(b:k<A.length)(hl:k<l.length)(a:A[k]?=some x):(A.take k++l.drop k).set k x=A.take (k+1)++l.drop (k+1):=by
 rw[List.set_append_right _ _ (by simp;omega),show k-(A.take k).length=0 by simp;omega];rw[List.drop_eq_getElem_cons hl,List.set_cons_zero,List.take_succ_eq_append_getElem b];rw[List.getElem?_eq_getElem b]at a;simp only[Option.some.injEq]at a;rw[a,List.append_assoc,List.singleton_append]
def Pg.dW(s base n:Int):Bool:=decide (0<=base/\0<=n/\base<=s/\n<(s-base).tdiv 4)
theorem lp{s base n:Int}(h:¬(0<=base/\0<=n/\base<=s/\n<(s-base).tdiv 4)):Pg.dW s base n=false:=decide_eq_false h
abbrev Pp:=Nat×Value
def dP:Pp:=(0,undef)
def wK(x:Pp):List Value:=[.int .u64 (x.1:Int),x.2]
def dL(l:List Pp):List Value:=l.flatMap wK
theorem kV:∀l:List Pp,(dL l).length=l.length*2
 | []=>rfl
 |h::l=>by
  have:=kV l;simp only[dL,List.flatMap_cons,List.length_append,List.length_cons]at*
  simp only[wK,List.length_cons,List.length_nil];omega
theorem qB(a b:List Pp):dL (a++b)=dL a++dL b:=by simp[dL]
theorem pT:∀(l:List Pp)(i:Nat),i<l.length->(dL l)[i*2]?=some (.int .u64 ((l.getD i dP).1:Int))
 | [],i,h=>by simp at h
 |x::l,0,_=>by simp[dL,wK]
 |x::l,i+1,h=>by
  have:=pT l i (by simpa using h);rw[show(i+1)*2=i*2+1+1 by omega];simpa[dL,wK]using this
theorem nG:∀(l:List Pp)(i:Nat),i<l.length->(dL l)[i*2+1]?=some (l.getD i dP).2
 | [],i,h=>by simp at h
 |x::l,0,_=>by simp[dL,wK]
 |x::l,i+1,h=>by
  have:=nG l i (by simpa using h);rw[show(i+1)*2+1=i*2+1+1+1 by omega];simpa[dL,wK]using this
theorem wN(l:List Pp)(b:∀x∈l,x.2.oneCell'=true):∀u∈dL l,u.oneCell'=true:=by
 intro u hu;simp only[dL,List.mem_flatMap,wK]at hu;obtain⟨x,hm,a⟩:=hu;simp at a;rcases a with rfl|rfl
 ·rfl
 ·exact b _ hm
structure FD(w:World)(v:Value)(l:List Pp):Prop where
 form:∃p cap,v=.slice p l.length cap/\(l.length<=cap/\cap<=9223372036854775807)/\(p=none->cap=0)/\(0<l.length->∃b off,p=some ⟨b,off,none⟩/\∀j,j<l.length*2->w.cell? ⟨b,off+j,none⟩=(dL l)[j]?)
theorem FD.at{w:World}{b off cap:Nat}{l:List Pp}(h:FD w (.slice (some ⟨b,off,none⟩) l.length cap) l)(i:Nat)(e:i<l.length):
 w.cell? ⟨b,off+i*2,none⟩=some (.int .u64 ((l.getD i dP).1:Int))/\w.cell? ⟨b,off+i*2+1,none⟩=some (l.getD i dP).2:=by
 obtain⟨j,g,d,k,hz,hp⟩:=h.form;obtain⟨m,c,a,f⟩:=hp (by omega);subst a;simp only[Value.slice.injEq,Option.some.injEq,Addr.mk.injEq,and_true,true_and]at d;obtain⟨⟨rfl,rfl⟩,rfl⟩:=d;constructor
 ·rw[f (i*2) (by omega),pT l i e]
 ·rw[Nat.add_assoc,f (i*2+1) (by omega),nG l i e]
theorem E2:(Tryz.prog.info? 59).map (fun i=>(i.zero,i.size,i.bytes))=some (some (.agg #[.int .u64 0,.slice none 0 0]),2,32):=by kernel_rfl
def jI(base:Nat)(w:World)(v:Value)(l:List Pp):Prop:=w.ownsRow base 59 2 v l.length (dL l)
theorem jI.form{base:Nat}{w:World}{v:Value}{l:List Pp}(h:jI base w v l):(v=.slice none 0 0/\l=[])\/∃g cap,v=.slice (some ⟨g,0,none⟩) l.length cap/\base<=g/\g<w.heap.size/\l.length<=cap/\cap<=9223372036854775807:=by
 rcases h.2 with⟨a,h0⟩|⟨g,cap,cur,a,c,b,e,d,i,f⟩
 ·exact Or.inl ⟨a,List.eq_nil_of_length_eq_zero h0⟩
 ·exact Or.inr ⟨g,cap,a,c,lt_of_block b,e,d⟩
theorem jI.bz{base:Nat}{w:World}{v:Value}{l:List Pp}(h:jI base w v l):FD w v l:=by
 rcases h.2 with⟨a,h0⟩|⟨g,cap,cur,a,i,c,f,e,k,d⟩
 ·exact⟨none,0,by rw[a,h0],by omega,fun _=>rfl,fun h=>absurd h (by omega)⟩
 ·refine⟨some ⟨g,0,none⟩,cap,a,⟨f,e⟩,fun h=>by simp at h,fun _=>⟨g,0,rfl,fun j b=>?_⟩⟩;rw[Nat.zero_add,cell_of_row _ g j cur 59 (0,0) c,<-d,List.getElem?_take,if_pos b,Array.getElem?_toList]
theorem jI.grown{base:Nat}{w w':World}{v:Value}{l:List Pp}{row:Option Nat}(h:jI base w v l)(b:w.grownBy w' row)(a:v.ownBlock=none\/v.ownBlock≠row):jI base w' v l:=h.kept b a
theorem jI.below{base:Nat}{w w':World}{v:Value}{l:List Pp}(h:jI base w v l)(a:Below w.heap.size w w'):jI base w' v l:=
 h.grown (row:=none) (aR a none) (by cases b:v.ownBlock<;>simp)
theorem A7(base:Nat)(w:World):jI base w (.slice none 0 0) []:=⟨rfl,Or.inl ⟨rfl,rfl⟩⟩
theorem jI.at{base g cap:Nat}{w:World}{l:List Pp}(h:jI base w (.slice (some ⟨g,0,none⟩) l.length cap) l)(i:Nat)(c:i<l.length):
 w.cell? ⟨g,i*2,none⟩=some (.int .u64 ((l.getD i dP).1:Int))/\w.cell? ⟨g,i*2+1,none⟩=some (l.getD i dP).2:=by
 obtain⟨b,a⟩:=h.bz.at i c;rw[Nat.zero_add]at b a;exact⟨b,a⟩
theorem pH{α:Type}(a b:List α)(i:Nat)(d:α)(h:i<a.length):(a++b).getD i d=a.getD i d:=by
 simp only[List.getD_eq_getElem?_getD];rw[List.getElem?_append_left h]
theorem mj{α:Type}(a:List α)(x:α)(d:α):(a++[x]).getD a.length d=x:=by
 simp[List.getD_eq_getElem?_getD]
theorem lE{w:World}{a b n k s t:Nat}{e f:TypeId}{xs p:List Value}{u v:Value}(y:w.ownsRow a e s u n xs)(x:w.ownsRow b f t v k p)(i:e≠f):u.ownBlock=none\/u.ownBlock≠v.ownBlock:=by
 rcases y.2 with⟨h,_⟩|⟨g,cap,cur,j,z,q,_⟩
 ·exact Or.inl (by rw[h];rfl)
 ·rcases x.2 with⟨h,_⟩|⟨A,o,m,d,r,c,_⟩
  ·exact Or.inr (by rw[h,j];simp[Value.ownBlock])
  ·refine Or.inr ?_;rw[j,d];intro l;simp only[Value.ownBlock,Option.some.injEq]at l;subst l;rw[q]at c;simp only[Option.some.injEq,Obj.cells.injEq]at c;exact i c.2.1
theorem Own.al{base:Nat}{w w':World}{v:Value}{l:List Nat}{S:Nat->Prop}(h:Own base w v l)(b:Touch S w w')(hs:∀g,v.ownBlock=some g->¬S g):Own base w' v l:=by
 refine⟨⟨h.own.1,?_⟩,h.small,h.len⟩;rcases h.own.2 with e|⟨g,cap,cur,a,d,c,r⟩
 ·exact Or.inl e
 ·exact Or.inr ⟨g,cap,cur,a,d,b.row c (hs g (by rw[a];rfl)),r⟩
end Go.Proofs.YtbpodmallknhfaaGreat
namespace Go.Proofs.YtbpodmallknhfaaGreat
namespace Po
abbrev Pg:=Nat×List Nat
def blank:Pg:=(0,Pg.bm 500)
structure Ar where
 spare:Int
 base:Int
 cB:Int
def Ar.Fits(n:Nat)(a:Ar):Prop:=1<=a.cB/\0<=a.spare/\0<=a.base/\a.spare+5<=n/\a.base+4*a.cB<=n/\(a.spare+5<=a.base\/a.base+4*a.cB<=a.spare)
def Ar.Has(a:Ar)(i:Nat):Prop:=(a.spare<=(i:Int)/\(i:Int)<a.spare+5)\/(a.base<=(i:Int)/\(i:Int)<a.base+4*a.cB)
def ve(a:Ar)(at_ count:Nat):Prop:=∀i,a.Has i->i<at_\/at_+count+2<=i
def il(at_ count:Nat)(d a:Dk.aq):Prop:=∀i,(i<at_\/at_+count+2<=i)->d.waits.getD i none=none->a.waits.getD i none=none/\a.aP.getD i []=d.aP.getD i []
theorem il.refl(a c:Nat)(d:Dk.aq):il a c d d:=fun _ _ h=>⟨h,rfl⟩
theorem il.trans{a c:Nat}{d e f:Dk.aq}(h:il a c d e)(k:il a c e f):il a c d f:=fun i b hw=>by
 have j:=h i b hw;have g:=k i b j.1;exact⟨g.1,g.2.trans j.2⟩
structure S where
 now:Nat->Pg
 bJ:Nat->Pg
 first:Nat->Option Nat
 pins:Nat->Nat
 held:List Nat
 aC:Nat
 ar:Ar
def fresh(f:Nat->Pg)(fr:Nat)(a:Ar):S:=⟨f,f,fun _=>none,fun _=>0,[],fr,a⟩
def cK(x:Pg):Prop:=x.1<18446744073709551616/\x.2.length=500/\∀b∈x.2,b<256
structure Good(s:S):Prop where
 sorted:s.held.Pairwise (·< ·)
 qg:s.held.length<=s.aC
 G2:∀k∈s.held,(k:Int)<s.ar.cB
 pinned:∀k,0<s.pins k->k∈s.held
 bo:∀k,s.first k≠none->k∈s.held
 clean:∀k,s.first k=none->s.bJ k=s.now k
 ok:∀k,cK (s.now k)
 Ga:∀k,cK (s.bJ k)
def Full(s:S):Prop:=s.held.length=s.aC/\∀k∈s.held,0<s.pins k
def jJ(s:S)(k:Nat):Prop:=k∈s.held\/¬Full s
def xe(lg:Wl.S)(s:S):Prop:=∀k,(s.bJ k).1<lg.ae/\(s.now k).1<lg.stop
def cW{α:Type}(f:Nat->α)(n:Nat)(x:α)(k:Nat):α:=if k=n then x else f k
theorem cI{α:Type}(f:Nat->α)(n:Nat)(x:α):cW f n x n=x:=if_pos rfl
theorem eD{α:Type}(f:Nat->α){n k:Nat}(x:α)(h:k≠n):cW f n x k=f k:=if_neg h
structure qb(s a:S):Prop where
 now:a.now=s.now
 pins:a.pins=s.pins
 aC:a.aC=s.aC
 ar:a.ar=s.ar
 first:∀k,k∈a.held->a.first k=s.first k
 bJ:∀k,a.bJ k=s.bJ k\/a.bJ k=s.now k
structure rJ(s:S)(n:Nat)(x:Pg)(a:S):Prop where
 now:a.now=cW s.now n x
 pins:a.pins=s.pins
 aC:a.aC=s.aC
 ar:a.ar=s.ar
 own:n∈a.held/\a.first n=some ((s.first n).getD x.1)
 first:∀k,k≠n->k∈a.held->a.first k=s.first k
 bJ:∀k,a.bJ k=s.bJ k\/a.bJ k=s.now k
structure mA(s:S)(n:Nat)(a:S):Prop where
 now:a.now=s.now
 pins:a.pins=s.pins
 aC:a.aC=s.aC
 ar:a.ar=s.ar
 own:a.first n=none
 first:∀k,k≠n->k∈a.held->a.first k=s.first k
 bJ:∀k,a.bJ k=s.bJ k\/a.bJ k=s.now k
structure Pinned(s:S)(n:Nat)(a:S):Prop where
 now:a.now=s.now
 pins:a.pins=cW s.pins n (s.pins n+1)
 aC:a.aC=s.aC
 ar:a.ar=s.ar
 first:∀k,k∈a.held->a.first k=s.first k
 bJ:∀k,a.bJ k=s.bJ k\/a.bJ k=s.now k
def Lf(lg a:Wl.S):Prop:=a=lg\/a=Wl.flush lg
theorem ue{s:S}{k:Nat}(a:k∈s.held)(b:s.pins k=0):¬Full s:=fun h=>by have:=h.2 k a;omega
theorem fA{s:S}(h:∀k,s.pins k=0)(hf:1<=s.aC):¬Full s:=fun a=>by
 cases e:s.held with
 |nil=>have:=a.1;rw[e,List.length_nil]at this;omega
 |cons k l=>
  have:=a.2 k (by rw[e];exact List.mem_cons_self ..);rw[h k]at this;omega
theorem Good.pJ{s:S}(h:Good s){k:Nat}(a:k∉s.held):s.first k=none:=by
 cases e:s.first k with
 |none=>rfl
 |some f=>exact absurd (h.bo k (by rw[e];intro c;cases c)) a
theorem lx{f:Nat->Pg}{fr:Nat}{a:Ar}(h:∀k,cK (f k)):Good (fresh f fr a):=
 ⟨List.Pairwise.nil,Nat.zero_le _,(fun k b=>by cases b),(fun k b=>absurd b (Nat.lt_irrefl 0)),(fun k b=>absurd rfl b),(fun _ _=>rfl),h,h⟩
theorem Lf.stop{lg a:Wl.S}(h:Lf lg a):a.stop=lg.stop:=by rcases h with rfl|rfl<;>rfl
theorem Lf.ai{lg a:Wl.S}(h:Lf lg a):a.ai=lg.ai:=by rcases h with rfl|rfl<;>rfl
theorem Lf.at_{lg a:Wl.S}(h:Lf lg a):a.at_=lg.at_:=by rcases h with rfl|rfl<;>rfl
theorem Lf.count{lg a:Wl.S}(h:Lf lg a):a.count=lg.count:=by rcases h with rfl|rfl<;>rfl
theorem Lf.start{lg a:Wl.S}(h:Lf lg a):a.start=lg.start:=by rcases h with rfl|rfl<;>rfl
end Po
end Go.Proofs.YtbpodmallknhfaaGreat
namespace Go.Proofs.YtbpodmallknhfaaGreat
open Go.RowKit
def eO(U V X:Nat->Prop)(i:Nat):Prop:=U i\/V i\/X i
def xo(a:Po.Ar):Value:=.agg #[.int .i64 a.spare,.int .i64 a.base,.int .i64 a.cB]
def CI(a:Po.Ar):Prop:=qF a.spare/\qF a.base/\qF a.cB
section
variable(PL:(Nat->Prop)->(Nat->Prop)->World->Nat->Nat->Dk.aq->Wl.S->Prop)(PO:(Nat->Prop)->World->Nat->Nat->Nat->Po.S->Prop)(Hw:Dk.aq->Po.Ar->(Nat->Po.Pg)->Prop)
structure iq(U V X:Nat->Prop)(w:World)(B L P:Nat)(d:Dk.aq)(lg:Wl.S)(s:Po.S):Prop where
 log:PL U V w B L d lg
 own:PO X w B L P s
 eu:Hw d s.ar s.bJ
 off:∀i,cY U V i->¬X i
 im:Po.xe lg s
 kf:Po.ve s.ar lg.at_ lg.count
def fz(U V X:Nat->Prop)(w:World)(B L P:Nat)(w':World)(f:Dk.aq)(a:Wl.S)(e:Po.S):Prop:=
 ∃d c b,iq PL PO Hw d c b w' B L P f a e/\Touch (eO U V X) w w'/\br U d w/\br V c w/\br X b w
def nk(U V X:Nat->Prop)(w:World)(B L P:Nat)(w':World)(g:Dk.aq)(a:Wl.S)(f:Po.S)(u:Value):Prop:=
 ∃e d c,iq PL PO Hw e d c w' B L P g a f/\Touch (eO U V X) w w'/\br U e w/\br V d w/\br X c w/\∀b,u.ownBlock=some b->¬eO e d c b
theorem nk.rT{U V X:Nat->Prop}{w:World}{B L P:Nat}{w':World}{c:Dk.aq}{a:Wl.S}{b:Po.S}{u:Value}(h:nk PL PO Hw U V X w B L P w' c a b u):fz PL PO Hw U V X w B L P w' c a b:=by
 obtain⟨l,k,j,i,g,f,e,d,-⟩:=h;exact⟨l,k,j,i,g,f,e,d⟩
end
structure cQ(l:(Nat->Prop)->World->Nat->Dk.aq->Prop)(PL:(Nat->Prop)->(Nat->Prop)->World->Nat->Nat->Dk.aq->Wl.S->Prop)(PO:(Nat->Prop)->World->Nat->Nat->Nat->Po.S->Prop)
 (Hd:Dk.aq->Wl.S->Prop) (Hw:Dk.aq->Po.Ar->(Nat->Po.Pg)->Prop) (v:Dk.aq->Po.Ar->(Nat->Po.Pg->Prop)->Prop):Prop where
 Ed:∀{U T w w' B d},l U w B d->Touch T w w'->(∀i,U i->¬T i)->l U w' B d
 He:∀{U w B d},l U w B d->∀i,U i->i<w.heap.size
 Ff:∀{U w B d},l U w B d->Dk.Ok d
 qX:∀{U V T w w' B L d s},PL U V w B L d s->Touch T w w'->(∀i,cY U V i->¬T i)->PL U V w' B L d s
 Dl:∀{U V w B L d s},PL U V w B L d s->∀i,cY U V i->i<w.heap.size
 dev:∀{U V w B L d s},PL U V w B L d s->l U w B d
 BA:∀{U V w B L d s},PL U V w B L d s->Wl.Good s
 xz:∀{X T w w' B L P s},PO X w B L P s->Touch T w w'->(∀i,X i->¬T i)->PO X w' B L P s
 GM:∀{X w B L P s},PO X w B L P s->∀i,X i->i<w.heap.size
 ud:∀{X w B L P s},PO X w B L P s->Po.Good s
 BJ:∀{d g a f at_ count n},Hw d a f->Po.ve a at_ count->Po.il at_ count d g->Dk.size g=Dk.size d->Po.Ar.Fits n a->Dk.size d=n->Hw g a f
 ur:∀{d a n},Dk.Ok d->Dk.size d=n->Po.Ar.Fits n a->(∀i,a.Has i->d.waits.getD i none=none/\d.aP.getD i []=Dk.blank)->Hw d a fun _=>Po.blank
 new:∀(n:Nat)w,1<=n->n<=65536->Calls Tryz.prog 15 #[.int .i64 n,.int .i64 n] w fun e w'=>
  ∃B U,e=.returned (.tuple #[.pointer (some ⟨B,0,none⟩),.int .i64 0])/\l U w' B (Dk.fresh n n)/\(∀i,U i->w.heap.size<=i)/\Below w.heap.size w w'
 make:∀{U w B n}(a c:Nat),l U w B (Dk.fresh n n)->Wl.Fits n a c->Calls Tryz.prog 16 #[.pointer (some ⟨B,0,none⟩),.int .i64 a,.int .i64 c] w fun e w'=>
  ∃L j r g,e=.returned (.tuple #[.pointer (some ⟨L,0,none⟩),.int .i64 0])/\PL j r w' B L g (Wl.fresh a c)/\Wl.Calm n g/\Po.il a c (Dk.fresh n n) g/\Touch U w w'/\br U j w/\(∀i,r i->w.heap.size<=i)
 append:∀{U V w B L d s}(x:Lr.R)(o n u c t:Value),PL U V w B L d s->bA w x o n u c t->Lr.xm x->s.ai<=1000000->s.stop<=1000000000000->Calls Tryz.prog 29 #[.pointer (some ⟨L,0,none⟩),cz x o n u c t] w fun e w'=>
  e=.returned (.tuple #[.int .u64 ((Wl.dA s x).2.1:Nat),.int .i64 ((Wl.dA s x).2.2:Nat)])/\∃r,PL U r w' B L d (Wl.dA s x).1/\Touch V w w'/\br V r w
 end_:∀{U V w B L d s},PL U V w B L d s->s.stop<=1000000000000->Calls Tryz.prog 35 #[.pointer (some ⟨L,0,none⟩)] w fun e w'=>e=.returned (.int .u64 (s.stop:Int))/\Below w.heap.size w w'
 Ge:∀{U V w B L d n lg a f},PL U V w B L d lg->Wl.Calm n d->a.Fits n->CI a->Po.ve a lg.at_ lg.count->Hw d a f->Calls Tryz.prog 19 #[.pointer (some ⟨B,0,none⟩),xo a] w fun e w'=>
  e=.returned (.int .i64 0)/\∃j g,PL j V w' B L g lg/\Wl.Calm n g/\Hw g a f/\Touch U w w'/\br U j w
 mQ:∀{U V w B L d n lg a f}(fr:Nat),PL U V w B L d lg->Wl.Calm n d->a.Fits n->CI a->Hw d a f->(∀k,Po.cK (f k))->1<=fr->fr<=64->Calls Tryz.prog 18 #[.pointer (some ⟨B,0,none⟩),.pointer (some ⟨L,0,none⟩),xo a,.int .i64 (fr:Int)] w fun e w'=>
  ∃P X,e=.returned (.tuple #[.pointer (some ⟨P,0,none⟩),.int .i64 0])/\PO X w' B L P (Po.fresh f fr a)/\(∀i,X i->w.heap.size<=i)/\Below w.heap.size w w'
 get:∀{U V X w B L P d n lg s}(m:Nat),iq PL PO Hw U V X w B L P d lg s->Wl.Calm n d->lg.stop<=1000000000000->(m:Int)<s.ar.cB->Po.jJ s m->Calls Tryz.prog 20 #[.pointer (some ⟨P,0,none⟩),.int .i64 (m:Int)] w fun e w'=>
  ∃u g b h,e=.returned (.tuple #[fZ (s.now m).1 u,.int .i64 0])/\Own w.heap.size w' u (s.now m).2/\nk PL PO Hw U V X w B L P w' g b h u/\Wl.Calm n g/\Po.Lf lg b/\Po.qb s h/\m∈h.held/\((∀k,s.first k=none)->g=d/\b=lg)
 put:∀{U V X w B L P d n lg s}(m:Nat)(x:Po.Pg)(u:Value),iq PL PO Hw U V X w B L P d lg s->Wl.aY n d->lg.stop<=1000000000000->(m:Int)<s.ar.cB->Po.jJ s m->Po.cK x->aV w u x.2->x.1<lg.stop->Calls Tryz.prog 21 #[.pointer (some ⟨P,0,none⟩),.int .i64 (m:Int),fZ x.1 u] w fun e w'=>
  (∃g b h,e=.returned (.int .i64 0)/\fz PL PO Hw U V X w B L P w' g b h/\Wl.aY n g/\(Wl.Calm n d->Wl.Calm n g)/\Po.Lf lg b/\Po.rJ s m x h)\/
  (¬Wl.Calm n d/\e=.returned (.int .i64 6)/\∃j g b c,l j w' B g/\Wl.aY n g/\Touch (eO U V X) w w'/\br U j w/\Po.Lf lg b/\(∀k x,c k x->(x=s.bJ k\/x=s.now k)/\x.1<b.ae)/\∀p,Hd (Dk.ay g p) b/\v (Dk.ay g p) s.ar c)
 Hb:∀{U V X w B L P d n lg s}(m:Nat),iq PL PO Hw U V X w B L P d lg s->Wl.Calm n d->lg.stop<=1000000000000->(m:Int)<s.ar.cB->Po.jJ s m->s.pins m<=1000000->Calls Tryz.prog 23 #[.pointer (some ⟨P,0,none⟩),.int .i64 (m:Int)] w fun e w'=>
  e=.returned (.int .i64 0)/\∃g b h,fz PL PO Hw U V X w B L P w' g b h/\Wl.Calm n g/\Po.Lf lg b/\Po.Pinned s m h
 pins:∀{U V X w B L P d n lg s}(m:Nat),iq PL PO Hw U V X w B L P d lg s->Wl.Calm n d->(m:Int)<s.ar.cB->s.pins m<=1000000->Calls Tryz.prog 12 #[.pointer (some ⟨P,0,none⟩),.int .i64 (m:Int)] w fun e w'=>e=.returned (.int .i64 (s.pins m:Int))/\∃q,w'=w.drewN q
 flush:∀{U V X w B L P d n lg s}(m:Nat),iq PL PO Hw U V X w B L P d lg s->Wl.aY n d->lg.stop<=1000000000000->(m:Int)<s.ar.cB->Calls Tryz.prog 25 #[.pointer (some ⟨P,0,none⟩),.int .i64 (m:Int)] w fun e w'=>
  (∃g b h,e=.returned (.int .i64 0)/\fz PL PO Hw U V X w B L P w' g b h/\Wl.aY n g/\(Wl.Calm n d->Wl.Calm n g)/\Po.Lf lg b/\Po.mA s m h)\/
  (¬Wl.Calm n d/\e=.returned (.int .i64 6)/\∃j g b c,l j w' B g/\Wl.aY n g/\Touch (eO U V X) w w'/\br U j w/\Po.Lf lg b/\(∀k x,c k x->(x=s.bJ k\/x=s.now k)/\x.1<b.ae)/\∀p,Hd (Dk.ay g p) b/\v (Dk.ay g p) s.ar c)
end Go.Proofs.YtbpodmallknhfaaGreat
namespace Go.Proofs.YtbpodmallknhfaaGreat
open Go.RowKit
namespace Po
def eu:Ar:=⟨34,40,16⟩
theorem fq:eu.Fits 120:=⟨by decide,by decide,by decide,by decide,by decide,Or.inl (by decide)⟩
theorem mw:CI eu:=⟨⟨by decide,by decide⟩,⟨by decide,by decide⟩,⟨by decide,by decide⟩⟩
theorem eN:ve eu 0 30:=fun i b=>by
 rcases b with⟨a,-⟩|⟨a,-⟩
 ·have a:(34:Int)<=(i:Int):=a;omega
 ·have a:(40:Int)<=(i:Int):=a;omega
def pW(n:Int)(i:Nat):Nat:=((n*31+i)%256).toNat
def oT(n:Int):List Nat:=(List.range 500).map (pW n)
def eZ(n:Int):List Nat:=((oT n).set 0 (n%256).toNat).set 1 ((n/256)%256).toNat
theorem fL(n:Int):(oT n).length=500:=by simp[oT]
theorem eX(n:Int):(eZ n).length=500:=by simp[eZ,oT]
theorem vO(n:Int):∀x∈oT n,x<256:=by
 intro x a;simp only[oT,List.mem_map]at a;obtain⟨i,-,rfl⟩:=a;unfold pW;omega
theorem kb(n:Int):∀x∈eZ n,x<256:=by
 intro x a;rcases List.mem_or_eq_of_mem_set a with a|rfl
 ·rcases List.mem_or_eq_of_mem_set a with a|rfl
  ·exact vO n x a
  ·omega
 ·omega
theorem uQ(n:Int){k:Nat}(a:k<18446744073709551616):cK (k,eZ n):=by
 unfold cK;dsimp only;exact⟨a,eX n,kb n⟩
theorem Cn:cK blank:=by
 unfold cK blank;dsimp only;exact⟨by decide,Pg.bU 500,Pg.jP 500⟩
end Po
set_option maxHeartbeats 800000 in
set_option maxRecDepth 20000 in
theorem kg(w:World):Calls Tryz.prog 32 #[] w fun e w'=>e=.returned (xo Po.eu)/\Below w.heap.size w w':=by
 obtain⟨W,g⟩:∃W,W=w.alloc (.cells #[.int .i64 0,.int .i64 0,.int .i64 0] 46):=⟨_,rfl⟩
 have a:W.heap[w.heap.size]?=some (.cells #[.int .i64 0,.int .i64 0,.int .i64 0] 46 (0,0)):=by rw[g];exact heap_alloc_last _ _
 have k:Below w.heap.size w W:=by rw[g];exact aj _ _
 obtain⟨B,h⟩:∃B,B=w.heap.size:=⟨_,rfl⟩
 rw[<-h]at a;obtain⟨i,b⟩:=G0 (x:=.int .i64 34) (y:=.int .i64 40) (z:=.int .i64 16) a;have f:=xV i;have d:=xU i;have c:=xT i;have n:=Lib.hid b;have l:=Lib.hid k;have j:=Lib.hid h;have m:Hid (_/\_/\_):=⟨f,d,c⟩
 clear i b f d c k;go_enter Tryz.func32,Tryz.ntmps32;go_upto_region 1 with(fail)
 rw[<-g,<-h];have c0:=xV a;have c1:=xU a;have c2:=xT a;have f0:=B2 a 0;have f1:=B2 a 1;have f2:=B2 a 2;clear a g h;go_wp2_with fail
 obtain⟨f,d,c⟩:=m.out;refine bodyPost_ret (v:=xo Po.eu) (by simp[results,Tryz.results32,go_sem,f,d,c,xo,Po.eu]) rfl ⟨rfl,?_⟩;exact aJ l.out n.out l.out.size (Nat.le_of_eq j.out.symm)
theorem ye(n:Int)(k:Nat):(wrap64 (wrap64 (n*31)+(k:Int)))%256=(Po.pW n k:Int):=by
 unfold Po.pW wrap64;omega
set_option maxHeartbeats 1600000 in
set_option maxRecDepth 20000 in
theorem lD(n:Int)(w:World):Calls Tryz.prog 30 #[.int .i64 n] w fun e w'=>∃g,e=.returned (.slice (some ⟨g,0,none⟩) 500 500)/\w.heap.size<=g/\Own w.heap.size w' (.slice (some ⟨g,0,none⟩) 500 500) (Po.eZ n)/\Below w.heap.size w w':=by
 have c:(Instr.makeSlice 57 (.int .i64 500) (.int .i64 500)).run Tryz.prog w=.ok (.slice (some ⟨w.heap.size,0,none⟩) 500 500) (w.alloc (.cells ((Pg.bm 500).map bv).toArray 5)):=fk 500 (by decide) w;obtain⟨W,m⟩:∃W,W=w.alloc (.cells ((Pg.bm 500).map bv).toArray 5):=⟨_,rfl⟩
 have h:Below w.heap.size w W:=by rw[m];exact(Below.refl _ _).alloc (Nat.le_refl _) _
 have d:W.heap[w.heap.size]?=some (.cells ((Pg.bm 500).map bv).toArray 5 (0,0)):=by rw[m];exact heap_alloc_last _ _
 rw[<-m]at c;have z:=Lib.hid d;have A:=Lib.hid h;obtain⟨g,q⟩:∃g,w.heap.size=g:=⟨_,rfl⟩
 rw[q]at c z;have v:=Lib.hid q;clear m h d q;go_enter Tryz.func30,Tryz.ntmps30;go_wp2_with fail
 clear c;go_loopw [4] (fun i wr=>∃k:Nat,k<=500/\i=.int .i64 k/\wr.heap[g]?=some (.cells (((Po.oT n).take k++(Pg.bm 500).drop k).map bv).toArray 5 (0,0))/\Touch (fun j=>j=g) W wr) (fun i _=>500-(intOf i).toNat)
 case atStart=>exact⟨0,Nat.zero_le _,rfl,z.out,.refl _ _⟩
 case round=>
  obtain⟨k,D,rfl,b,hT⟩:=hrel;have a:=Lib.hid b;have t:=Lib.hid hT;clear b hT;by_cases f:k<500
  ·have B:(k:Int)<500:=by omega
   have hlen:k<((Po.oT n).take k++(Pg.bm 500).drop k).length:=by simp[Po.fL,Pg.bU];omega
   have c1:=wW a.out 0 hlen;have f1:=aI a.out k;have hm:=sO (i:=k) a.out (Po.pW n k);rw[Pg.CV (Po.oT n) (Pg.bm 500) k (Po.pW n k) (by rw[Po.fL];exact f) (by simp[Pg.bU];omega) (by simp[Po.oT,f])]at hm;have C:=Lib.hid hm;have s:=Lib.hid (t.out.trans (.set g k (bv (Po.pW n k)) rfl));clear hm hlen;go_wp2_with fail
   rw[ye];go_roundw
   case rel=>exact⟨k+1,by omega,by go_num,C.out,s.out⟩
   case measure=>simp[intOf];omega
  ·obtain rfl:k=500:=by omega
   have b:=a.out;rw[List.take_of_length_le (by rw[Po.fL];omega),List.drop_of_length_le (by simp[Pg.bU]),List.append_nil]at b;have c0:=wW (i:=0) b 0 (by rw[Po.fL];decide);have f0:=aI b 0;have p:=sO (i:=0) b (n%256).toNat;have c1:=wW (i:=1) p 0 (by rw[List.length_set,Po.fL];decide);have f1:=aI p 1;have o:=sO (i:=1) p ((n/256)%256).toNat;have r:bv (n%256).toNat=.int .u8 (n%256):=by unfold bv;congr 1;omega
   have y:bv ((n/256)%256).toNat=.int .u8 ((n/256)%256):=by unfold bv;congr 1;omega
   have l:=Lib.hid ((t.out.trans (.set g 0 (bv (n%256).toNat) rfl)).trans (.set g 1 (bv ((n/256)%256).toNat) rfl));rw[r,y]at l o;rw[r]at c1 f1;rw[show(((Po.oT n).set 0 (n%256).toNat).set 1 ((n/256)%256).toNat)=Po.eZ n from rfl]at o;have u:=Lib.hid o;clear b p o r y a t;go_wp2_with fail
   go_ret;have x:=xx (base:=g) u.out (Nat.le_refl _) (Po.kb n) (by rw[Po.eX];decide);rw[Po.eX]at x;exact⟨g,rfl,by rw[v.out];exact Nat.le_refl _,by rw[v.out];exact x,A.out.trans (l.out.below (fun i e=>by rw[e,v.out];exact Nat.le_refl _) (by have:=A.out.size;omega))⟩
end Go.Proofs.YtbpodmallknhfaaGreat
namespace Go.Proofs.YtbpodmallknhfaaGreat
open Go.RowKit
structure xf(l:(Nat->Prop)->World->Nat->Dk.aq->Prop)(p:(Nat->Prop)->(Nat->Prop)->World->Nat->Nat->Dk.aq->Wl.S->Prop)(Hd:Dk.aq->Wl.S->Prop)(m:Dk.aq->Po.Ar->(Nat->Po.Pg)->Prop)(o:Dk.aq->Po.Ar->(Nat->Po.Pg->Prop)->Prop):Prop where
 uA:∀{U V w B L d s}j,p U V w B L d s->Hd (Dk.ay d j) s
 uq:∀{d a f n}j,Wl.aY n d->m d a f->o (Dk.ay d j) a fun k x=>x=f k
 BK:∀{d a f q},m d a f->(∀k:Nat,(k:Int)<a.cB->f k=q k)->m d a q
 wo:∀{d a f}(n:Int),m d a f->m (Dk.arm d n).1 a f
 wA:∀{d s}(n:Int),Hd d s->Hd (Dk.arm d n).1 s
 BL:∀{d a c}(n:Int),o d a c->o (Dk.arm d n).1 a c
 arm:∀{U V w B L d s}(n:Int),p U V w B L d s->Calls Tryz.prog 28 #[.pointer (some ⟨B,0,none⟩),.int .i64 n] w fun e w'=>
  e=.returned (.int .i64 ((Dk.arm d n).2:Nat))/\∃b,p b V w' B L (Dk.arm d n).1 s/\Touch U w w'/\br U b w
 Fk:∀{U w B d}(n:Int),l U w B d->Calls Tryz.prog 28 #[.pointer (some ⟨B,0,none⟩),.int .i64 n] w fun e w'=>
  e=.returned (.int .i64 ((Dk.arm d n).2:Nat))/\∃b,l b w' B (Dk.arm d n).1/\Touch U w w'/\br U b w
 ay:∀{U w B d}v j,l U w B d->aV w v j->(0<j.length->∀g,v.ownBlock=some g->¬U g)->Calls Tryz.prog 31 #[.pointer (some ⟨B,0,none⟩),v] w fun e w'=>
  e=.returned (.int .i64 0)/\∃b,l b w' B (Dk.ay d j)/\Touch U w w'/\br U b w
 open_:∀{U w B d n s},l U w B d->Wl.Calm n d->Wl.Fits n s.at_ s.count->Hd d s->s.ai<=1000000->s.stop<=1000000000000->Calls Tryz.prog 33 #[.pointer (some ⟨B,0,none⟩),.int .i64 s.at_,.int .i64 s.count] w fun e w'=>
  ∃k L b r h,k<=s.cd.length/\s.ae<=Wl.placeOf s k/\e=.returned (.tuple #[.pointer (some ⟨L,0,none⟩),.int .i64 0])/\p b r w' B L h (Wl.cut s k)/\Wl.Calm n h/\Po.il s.at_ s.count d h/\Touch U w w'/\br U b w/\(∀i,r i->w.heap.size<=i)
 ln:∀{U w B d n lg a c},l U w B d->Wl.aY n d->d.off=false->a.Fits n->CI a->Po.ve a lg.at_ lg.count->Hd d lg->o d a c->(∀i,d.waits.getD i none=none)->Calls Tryz.prog 19 #[.pointer (some ⟨B,0,none⟩),xo a] w fun e w'=>
  (e=.returned (.int .i64 0)/\∃b h f,l b w' B h/\Wl.aY n h/\h.off=false/\Hd h lg/\m h a f/\(∀k,Po.cK (f k))/\(∀k:Nat,(k:Int)<a.cB->c k (f k))/\Touch U w w'/\br U b w)\/
  (¬Wl.Calm n d/\∃k:Nat,∃b h,e=.returned (.int .i64 (k:Int))/\k≠0/\l b w' B h/\Wl.aY n h/\(∀j,Hd (Dk.ay h j) lg/\o (Dk.ay h j) a c)/\Touch U w w'/\br U b w)
def km(base:Nat)(U:Nat->Prop):Prop:=∀i,U i->base<=i
theorem br.from{base:Nat}{U b:Nat->Prop}{w:World}(h:br U b w)(hf:km base U)(d:base<=w.heap.size):km base b:=fun i c=>by
 rcases h i c with a|a
 ·exact hf i a
 ·omega
theorem uF{base:Nat}{U:Nat->Prop}{w:World}(h:∀i,U i->w.heap.size<=i)(b:base<=w.heap.size):km base U:=fun i a=>Nat.le_trans b (h i a)
theorem Touch.under{base:Nat}{U:Nat->Prop}{w w':World}(h:Touch U w w')(hf:km base U)(a:base<=w.heap.size):Below base w w':=h.below hf a
theorem ly{base:Nat}{U V X:Nat->Prop}(h:km base U)(k:km base V)(l:km base X):km base (eO U V X):=fun i a=>a.elim (h i) fun a=>a.elim (k i) (l i)
section
variable{PD:(Nat->Prop)->World->Nat->Dk.aq->Prop}{PL:(Nat->Prop)->(Nat->Prop)->World->Nat->Nat->Dk.aq->Wl.S->Prop}{PO:(Nat->Prop)->World->Nat->Nat->Nat->Po.S->Prop}{Hd:Dk.aq->Wl.S->Prop}{Hw:Dk.aq->Po.Ar->(Nat->Po.Pg)->Prop}{Hp:Dk.aq->Po.Ar->(Nat->Po.Pg->Prop)->Prop}
variable{U V X:Nat->Prop}{w w':World}{B L P base:Nat}{d:Dk.aq}{lg:Wl.S}{s:Po.S}
structure jH(PL:(Nat->Prop)->(Nat->Prop)->World->Nat->Nat->Dk.aq->Wl.S->Prop)(PO:(Nat->Prop)->World->Nat->Nat->Nat->Po.S->Prop)(Hw:Dk.aq->Po.Ar->(Nat->Po.Pg)->Prop)(base:Nat)(U V X:Nat->Prop)(w:World)(B L P:Nat)(d:Dk.aq)(lg:Wl.S)(s:Po.S):Prop where
 at_:iq PL PO Hw U V X w B L P d lg s
 fu:km base U
 fv:km base V
 fx:km base X
theorem cQ.bQ(A:cQ PD PL PO Hd Hw Hp)(h:iq PL PO Hw U V X w B L P d lg s){T:Nat->Prop}(b:Touch T w w')(hs:∀i,eO U V X i->¬T i):iq PL PO Hw U V X w' B L P d lg s:=
 ⟨A.qX h.log b (fun i a=>hs i (a.elim Or.inl fun h=>Or.inr (Or.inl h))),A.xz h.own b (fun i a=>hs i (Or.inr (Or.inr a))),h.eu,h.off,h.im,h.kf⟩
theorem cQ.lt(A:cQ PD PL PO Hd Hw Hp)(h:iq PL PO Hw U V X w B L P d lg s):∀i,eO U V X i->i<w.heap.size:=fun i a=>
 a.elim (fun b=>A.Dl h.log i (Or.inl b)) fun a=>a.elim (fun b=>A.Dl h.log i (Or.inr b)) (A.GM h.own i)
theorem cQ.below(A:cQ PD PL PO Hd Hw Hp)(h:iq PL PO Hw U V X w B L P d lg s)(b:Below w.heap.size w w'):iq PL PO Hw U V X w' B L P d lg s:=
 A.bQ h (T:=fun i=>w.heap.size<=i) (.dC b fun _ _ h=>h) fun i a=>by have:=A.lt h i a;omega
theorem jH.below(A:cQ PD PL PO Hd Hw Hp)(h:jH PL PO Hw base U V X w B L P d lg s)(a:Below w.heap.size w w'):jH PL PO Hw base U V X w' B L P d lg s:=
 ⟨A.below h.at_ a,h.fu,h.fv,h.fx⟩
theorem jH.rT{w':World}{m:Dk.aq}{a:Wl.S}{g:Po.S}(h:jH PL PO Hw base U V X w B L P d lg s)(n:fz PL PO Hw U V X w B L P w' m a g)(b:base<=w.heap.size):
 ∃f e c,jH PL PO Hw base f e c w' B L P m a g/\Below base w w'/\Touch (eO U V X) w w'/\br U f w/\br V e w/\br X c w:=by
 obtain⟨f,e,c,o,l,k,j,i⟩:=n;exact⟨f,e,c,⟨o,k.from h.fu b,j.from h.fv b,i.from h.fx b⟩,l.under (ly h.fu h.fv h.fx) b,l,k,j,i⟩
theorem jH.E8{w':World}{n:Dk.aq}{a:Wl.S}{i:Po.S}{u:Value}(h:jH PL PO Hw base U V X w B L P d lg s)(o:nk PL PO Hw U V X w B L P w' n a i u)(g:base<=w.heap.size):
 ∃f e c,jH PL PO Hw base f e c w' B L P n a i/\Below base w w'/\Touch (eO U V X) w w'/\br U f w/\br V e w/\br X c w/\∀b,u.ownBlock=some b->¬eO f e c b:=by
 obtain⟨f,e,c,q,m,l,k,j,p⟩:=o;exact⟨f,e,c,⟨q,l.from h.fu g,k.from h.fv g,j.from h.fx g⟩,m.under (ly h.fu h.fv h.fx) g,m,l,k,j,p⟩
theorem iq.aQ(A:cQ PD PL PO Hd Hw Hp)(h:iq PL PO Hw U V X w B L P d lg s):Po.Good s:=A.ud h.own
set_option maxHeartbeats 3200000 in
set_option maxRecDepth 20000 in
theorem rF(A:cQ PD PL PO Hd Hw Hp)(fr:Nat)(h1:1<=fr)(Z:fr<=64)(w:World):Calls Tryz.prog 8 #[.int .i64 (fr:Int)] w fun e w'=>
 ∃B L P U V X d,e=.returned (.tuple #[.pointer (some ⟨B,0,none⟩),.pointer (some ⟨L,0,none⟩),.pointer (some ⟨P,0,none⟩),.bool true])/\jH PL PO Hw w.heap.size U V X w' B L P d (Wl.fresh 0 30) (Po.fresh (fun _=>Po.blank) fr Po.eu)/\Wl.Calm 120 d/\Below w.heap.size w w':=by
 have c:=Lib.hid A;have HF:Hid (1<=fr/\fr<=64):=⟨h1,Z⟩
 clear A h1 Z;go_enter Tryz.func8,Tryz.ntmps8;go_wp2_with fail
 refine(c.out.new 120 w (by decide) (by decide)).mono ?_;rintro e w1⟨B,U,rfl,Y,R,b⟩;have HD:=Lib.hid Y;have G:Hid (km w.heap.size U):=fun i f=>R i f;have C:=Lib.hid b;clear Y R b;go_wp2_with fail
 refine(c.out.make (n:=120) 0 30 HD.out ⟨by decide,by decide,by decide,by decide⟩).mono ?_;rintro e w2⟨L,U2,V2,d2,rfl,r,hC,W,hT,s,Q⟩;have J:=Lib.hid r;have q:=Lib.hid (C.out.trans ((hT.under G.out C.out.size).mono (Nat.le_refl _)));have l:=Lib.hid (s.from G.out C.out.size);have E:=Lib.hid (uF Q C.out.size);have z:=Lib.hid hC;have hz:Dk.size d2=120:=hC.sz;have u:=Lib.hid (c.out.ur (d:=d2) (a:=Po.eu) (n:=120) (c.out.Ff (c.out.dev r)) hz Po.fq fun i f=>by
  have D:i<120:=by
   rcases f with⟨-,h⟩|⟨-,h⟩
   ·have h:(i:Int)<34+5:=h;omega
   ·have h:(i:Int)<40+4*16:=h;omega
  have:=W i (Po.eN i f) (by show(List.replicate 120 (none:Option (List Nat))).getD i none=none;rw[List.getD_eq_getElem?_getD,List.getElem?_replicate];split<;>rfl);refine⟨this.1,this.2.trans ?_⟩;show(List.replicate 120 Dk.blank).getD i []=Dk.blank;rw[List.getD_eq_getElem?_getD,List.getElem?_replicate,if_pos D];rfl)
 clear r hC hT s Q HD G C hz W;go_wp2_with fail
 refine(kg w2).mono ?_;rintro e w3⟨rfl,b⟩;have x:=Lib.hid (c.out.qX J.out (T:=fun i=>w2.heap.size<=i) (.dC b fun _ _ h=>h) fun i f=>by have:=c.out.Dl J.out i f;omega);have j:=Lib.hid (q.out.trans (b.mono q.out.size));clear b J q;go_wp2_with fail
 refine(c.out.Ge x.out z.out Po.fq Po.mw Po.eN u.out).mono ?_;rintro e M⟨rfl,U4,d4,r,hC,O,hT,s⟩;have m:=Lib.hid r;have y:=Lib.hid hC;have t:=Lib.hid O;have F:=Lib.hid (s.from l.out j.out.size);have p:=Lib.hid (j.out.trans ((hT.under l.out j.out.size).mono (Nat.le_refl _)));clear r hC O hT s x z u l j;go_wp2_with fail
 refine(kg M).mono ?_;rintro e w5⟨rfl,b⟩;have g:=Lib.hid (c.out.qX m.out (T:=fun i=>M.heap.size<=i) (.dC b fun _ _ h=>h) fun i f=>by have:=c.out.Dl m.out i f;omega);have o:=Lib.hid (p.out.trans (b.mono p.out.size));clear b m p;go_wp2_with fail
 refine(c.out.mQ fr g.out y.out Po.fq Po.mw t.out (fun _=>Po.Cn) HF.out.1 HF.out.2).mono ?_;rintro e w6⟨P,X,rfl,S,N,b⟩;have I:=Lib.hid (c.out.qX g.out (T:=fun i=>w5.heap.size<=i) (.dC b fun _ _ h=>h) fun i f=>by have:=c.out.Dl g.out i f;omega);have H:=Lib.hid (c.out.Dl g.out);have K:=Lib.hid (o.out.trans (b.mono o.out.size));have HP:=Lib.hid S;have HX:=Lib.hid N;clear b g S N;go_wp2_with fail
 refine bodyPost_ret (v:=.tuple #[.pointer (some ⟨B,0,none⟩),.pointer (some ⟨L,0,none⟩),.pointer (some ⟨P,0,none⟩),.bool true]) (by simp[results,Tryz.results8,go_sem]) rfl ?_;refine⟨B,L,P,U4,V2,X,d4,rfl,⟨⟨I.out,HP.out,t.out,fun i f hx=>?_,fun k=>⟨?_,?_⟩,Po.eN⟩,F.out,E.out,uF HX.out o.out.size⟩,y.out,K.out⟩
 ·have:=H.out i f;have:=HX.out i hx;omega
 ·show 0<52;decide
 ·show 0<52;decide
theorem Po.sA{s:Po.S}(g:Po.Good s)(hp:∀k,k≠1->s.pins k=0)(hf:2<=s.aC):¬Po.Full s:=fun h=>by
 have f:=h.1;have c:=h.2;have d:=g.sorted;cases e:s.held with
 |nil=>rw[e,List.length_nil]at f;omega
 |cons a l=>
  cases e2:l with
  |nil=>rw[e,e2,List.length_singleton]at f;omega
  |cons b l2=>
   rw[e,e2]at c d;have n:=c a (List.mem_cons_self ..);have m:=c b (List.mem_cons_of_mem _ (List.mem_cons_self ..));have i:=(List.pairwise_cons.1 d).1 b (List.mem_cons_self ..);by_cases j:a=1
   ·have:=hp b (by omega);omega
   ·have:=hp a j;omega
def eY(Q:Nat)(pv:Value)(a:Value)(S:ByteArray)(W:Nat)(i:Nat)(v:Value)(w:World):Prop:=
 match i with
 |0=>v=.int .i64 0
 |1=>v=.bool true
 |2=>v=.bool true
 |3=>v=.pointer (some ⟨Q,1,none⟩)
 |4=>v=a
 |5=>v=.string S
 |6=>Own W w v (Po.eZ 5)
 |7=>v=.string S
 |8=>v=.bool true
 |9=>v=.bool true
 |10=>v=.bool true
 |11=>v=pv
 |12=>v=.int .i64 1
 |13=>v=.bool true
 |14=>v=.bool true
 |15=>v=.bool true
 |_=>True
theorem xi(Q:Nat)(pv:Value)(a:Value)(S:ByteArray)(W:Nat)(i:Nat)(v:Value)(w w':World)(b:Below w.heap.size w w')(h:eY Q pv a S W i v w):eY Q pv a S W i v w':=by
 unfold eY at*
 split at h<;>first|exact h|exact h.below b|trivial
set_option maxHeartbeats 3200000 in
set_option maxRecDepth 20000 in
theorem kE(A:cQ PD PL PO Hd Hw Hp)(w:World):Calls Tryz.prog 7 #[] w fun e w'=>e=.returned (.bool true)/\Below w.heap.size w w':=by
 have t:=Lib.hid A;clear A;go_enter Tryz.func7,Tryz.ntmps7;go_wp2_with fail
 refine(rF t.out 2 (by decide) (by decide) w).mono ?_;rintro e w1⟨B,L,P,U,V,X,d,rfl,r,hC,l⟩;have HP:=Lib.hid r;have HC:=Lib.hid hC;have HB:=Lib.hid l;clear r hC l;go_wp2_with fail
 refine(lD 5 w1).mono ?_;rintro e w2⟨g,rfl,-,G,l⟩;have C:=Lib.hid (HP.out.below t.out l);have Y:=Lib.hid (HB.out.trans (l.mono HB.out.size));have aq:=Lib.hid G;clear G l HP HB;go_wp2_with fail
 refine(t.out.put 3 (0,Po.eZ 5) _ C.out.at_ ⟨t.out.Ff (t.out.dev C.out.at_.log),HC.out.sz,HC.out.aW⟩ (by decide) (by decide) (Or.inr (Po.fA (fun _=>rfl) (by decide))) (Po.uQ 5 (by decide)) aq.out.bz (by decide)).mono ?_;rintro e w3 h;obtain⟨d3,aD,s3,rfl,hw,-,ai,s,hs⟩:∃d' ah s',e=.returned (.int .i64 0)/\fz PL PO Hw U V X w2 B L P w3 d' ah s'/\Wl.aY 120 d'/\(Wl.Calm 120 d->Wl.Calm 120 d')/\Po.Lf (Wl.fresh 0 30) ah/\Po.rJ (Po.fresh (fun _=>Po.blank) 2 Po.eu) 3 (0,Po.eZ 5) s':=by
  rcases h with h|⟨h,-⟩
  ·exact h
  ·exact absurd HC.out h
 obtain⟨U3,V3,X3,r,l,-⟩:=C.out.rT hw Y.out.size;have N:=Lib.hid r;have ay:=Lib.hid (ai HC.out);have T:=Lib.hid (Y.out.trans l);have o:=Lib.hid hs;have av:=Lib.hid s;clear h hw ai s hs r l C HC Y aq;go_wp2_with fail
 have I:s3.ar=Po.eu:=o.out.ar;have H:aD.stop=52:=av.out.stop;refine(t.out.Hb 1 N.out.at_ ay.out (by rw[H];decide) (by rw[I];decide) (Or.inr (Po.fA (fun k=>by rw[o.out.pins];rfl) (by rw[o.out.aC];decide))) (by rw[o.out.pins];decide)).mono ?_;rintro e w4⟨rfl,d4,aB,s4,hw,hC,s,hs⟩;obtain⟨U4,V4,X4,r,l,-⟩:=N.out.rT hw T.out.size;have z:=Lib.hid r;have ax:=Lib.hid hC;have R:=Lib.hid (T.out.trans l);have aF:=Lib.hid hs;have au:Hid (aB.stop=52):=s.stop.trans H;have Z:Hid (s4.ar=Po.eu):=hs.ar.trans I;have M:Hid (s4.pins=Po.cW (fun _=>0) 1 1):=by show _=_;rw[hs.pins,o.out.pins];rfl
 have HN:Hid (s4.now 3=(0,Po.eZ 5)):=by show _=_;rw[hs.now,o.out.now];exact Po.cI _ _ _
 have aw:Hid (s4.aC=2):=hs.aC.trans o.out.aC;clear hw hC s hs r l N ay T H I o av;go_wp2_with fail
 have hc:=t.out.get 3 z.out.at_ ax.out (by rw[au.out];decide) (by rw[Z.out];decide) (Or.inr (Po.sA (z.out.at_.aQ t.out) (fun k hk=>by rw[M.out];exact Po.eD _ _ hk) (by rw[aw.out];decide)));rw[HN.out]at hc;refine hc.mono ?_;rintro e w5⟨u,d5,aJ,s5,rfl,G,hw,hC,-,hs,-,-⟩;obtain⟨U5,V5,X5,r,l,-⟩:=z.out.rT hw.rT R.out.size;obtain⟨p3,c3,rfl⟩:∃p c,u=.slice p 500 c:=by
  obtain⟨p,c,e,-⟩:=G.bz.form;rw[Po.eX]at e;exact⟨p,c,e⟩
 have al:=Lib.hid r;have aH:=Lib.hid hC;have O:=Lib.hid (R.out.trans l);have ao:=Lib.hid G;have an:Hid (s5.pins 1=1):=by show _=_;rw[hs.pins,M.out];rfl
 have aI:Hid (s5.ar=Po.eu):=hs.ar.trans Z.out;clear hc G hw hC hs r l z ax R aF au M HN aw Z;obtain⟨S,hS⟩:∃S,S=strOfNums ((Po.eZ 5).map fun x:Nat=>(x:Int)):=⟨_,rfl⟩
 have HS:=Lib.hid hS;clear hS;go_upto_region 5 with(fail)
 obtain⟨W,hW⟩:∃W,W=w5.alloc (.cells #[.int .u64 0,.slice p3 500 c3] 59):=⟨_,rfl⟩
 have hr:W.heap[w5.heap.size]?=some (.cells #[.int .u64 0,.slice p3 500 c3] 59 (0,0)):=by rw[hW];exact heap_alloc_last _ _
 have l:Below w5.heap.size w5 W:=by rw[hW];exact(Below.refl _ _).alloc (Nat.le_refl _) _
 rw[<-hW];obtain⟨Q,hQ⟩:∃Q,Q=w5.heap.size:=⟨_,rfl⟩
 rw[<-hQ]at hr⊢;have C1:=Lib.hid (bI hr);have HQ:Hid (Q<W.heap.size):=lt_of_block hr;have HO:=Lib.hid (ao.out.bz.below l);have aA:=Lib.hid (O.out.trans (l.mono O.out.size));have aG:=Lib.hid (al.out.below t.out l);clear hW hr l hQ al O ao;have E:∀y,Below W.heap.size W y->(convert 57 9 (.slice p3 500 c3)).run Tryz.prog y=.ok (.string S) y:=fun y h=>by rw[HS.out];exact fi (HO.out.below h)
 have aj:=Lib.hid E;have F:∀y,Below W.heap.size W y->Calls Tryz.prog 12 #[.pointer (some ⟨P,0,none⟩),.int .i64 1] y fun e w'=>e=.returned (.int .i64 1)/\Below y.heap.size y w':=fun y h=>by
  have hc:=t.out.pins 1 (t.out.below aG.out.at_ h) aH.out (by rw[aI.out];decide) (by rw[an.out];decide);rw[an.out]at hc;exact hc.mono fun _ _⟨he,q,hq⟩=>⟨he,by rw[hq];exact below_drewN _ _ _⟩
 have ak:=Lib.hid F;clear E F;refine Ord.walk (eY Q (.pointer (some ⟨P,0,none⟩)) (.slice p3 500 c3) S W.heap.size) (fun _ _ w'=>Below W.heap.size W w') (fun a b=>Below a.heap.size a b)
  (by kernel_rfl) (by kernel_rfl) ?fr ?hfr (fun i v w w' l h=>xi _ _ _ _ _ i v w w' l h) (fun xs=>(Below.refl _ _).kH) ?he ?hend
 case hfr=>
  intro xs;simp only[Ord.fill,Act.put,List.setIfInBounds_toArray,List.set_cons_zero,List.set_cons_succ];rfl
 case he=>
  iterate 16 (refine Ord.aa (fun D xs w2 hD hC r hR f K j=>?_) ?_;rotate_left)
  rotate_left
  ·clear f;go_simp;exact j _ _ ⟨_,rfl,Below.refl _ _,hR,rfl⟩
  ·have q0:=Ord.ab _ f 0 (by decide);simp only[eY]at q0;simp only[q0]at j;clear f;go_simp;exact j _ _ ⟨_,rfl,Below.refl _ _,hR,rfl⟩
  ·have q1:=Ord.ab _ f 1 (by decide);simp only[eY]at q1;simp only[q1]at j;clear f;go_simp;exact j _ _ ⟨_,rfl,Below.refl _ _,hR,rfl⟩
  ·have n:=Ord.ab _ f 2 (by decide);simp only[eY]at n;simp only[n]at j;clear f;go_simp;exact j _ _ ⟨_,rfl,Below.refl _ _,hR,rfl⟩
  ·have q3:=Ord.ab _ f 3 (by decide);simp only[eY]at q3;have n:=Ord.ab _ f 2 (by decide);simp only[eY]at n;simp only[q3,n]at j;clear f;have cc:=hR.cell (p:=⟨Q,1,none⟩) HQ.out;rw[C1.out]at cc;go_simp;exact j _ _ ⟨_,rfl,Below.refl _ _,hR,rfl⟩
  ·have q4:=Ord.ab _ f 4 (by decide);simp only[eY]at q4;have n:=Ord.ab _ f 2 (by decide);simp only[eY]at n;simp only[q4,n]at j;clear f;have aE:=aj.out _ hR;go_simp;exact j _ _ ⟨_,rfl,Below.refl _ _,hR,rfl⟩
  ·have n:=Ord.ab _ f 2 (by decide);simp only[eY]at n;simp only[n]at j;clear f;go_simp;refine(lD 5 w2).mono ?_;rintro e w'⟨g,rfl,-,G,l⟩;exact j _ _ ⟨_,rfl,l,hR.trans (l.mono hR.size),G.from hR.size⟩
  ·have n:=Ord.ab _ f 2 (by decide);simp only[eY]at n;have q6:=Ord.ab _ f 6 (by decide);simp only[eY]at q6;simp only[n]at j;clear f;have aE:(convert 57 9 (xs 6)).run Tryz.prog w2=.ok (.string S) w2:=by rw[HS.out];exact fi q6.bz
   go_simp;exact j _ _ ⟨_,rfl,Below.refl _ _,hR,rfl⟩
  ·have q5:=Ord.ab _ f 5 (by decide);simp only[eY]at q5;have q7:=Ord.ab _ f 7 (by decide);simp only[eY]at q7;have n:=Ord.ab _ f 2 (by decide);simp only[eY]at n;simp only[q5,q7,n]at j;clear f;go_simp;exact j _ _ ⟨_,rfl,Below.refl _ _,hR,rfl⟩
  ·have n:=Ord.ab _ f 2 (by decide);simp only[eY]at n;have q8:=Ord.ab _ f 8 (by decide);simp only[eY]at q8;simp only[n,q8]at j;clear f;go_simp;exact j _ _ ⟨_,rfl,Below.refl _ _,hR,rfl⟩
  ·have q9:=Ord.ab _ f 9 (by decide);simp only[eY]at q9;simp only[q9]at j;clear f;go_simp;exact j _ _ ⟨_,rfl,Below.refl _ _,hR,rfl⟩
  ·have m:=Ord.ab _ f 10 (by decide);simp only[eY]at m;simp only[m]at j;clear f;go_simp;exact j _ _ ⟨_,rfl,Below.refl _ _,hR,rfl⟩
  ·have ag:=Ord.ab _ f 11 (by decide);simp only[eY]at ag;have m:=Ord.ab _ f 10 (by decide);simp only[eY]at m;simp only[ag,m]at j;clear f;go_simp;refine(ak.out w2 hR).mono ?_;rintro e w'⟨rfl,l⟩;exact j _ _ ⟨_,rfl,l,hR.trans (l.mono hR.size),rfl⟩
  ·have af:=Ord.ab _ f 12 (by decide);simp only[eY]at af;have m:=Ord.ab _ f 10 (by decide);simp only[eY]at m;simp only[af,m]at j;clear f;go_simp;exact j _ _ ⟨_,rfl,Below.refl _ _,hR,rfl⟩
  ·have m:=Ord.ab _ f 10 (by decide);simp only[eY]at m;have ae:=Ord.ab _ f 13 (by decide);simp only[eY]at ae;simp only[m,ae]at j;clear f;go_simp;exact j _ _ ⟨_,rfl,Below.refl _ _,hR,rfl⟩
  ·have ad:=Ord.ab _ f 14 (by decide);simp only[eY]at ad;simp only[ad]at j;clear f;go_simp;exact j _ _ ⟨_,rfl,Below.refl _ _,hR,rfl⟩
  exact Ord.az
 case hend=>
  intro D xs w9 hR hF;have J:=(hF 15 (by decide)).2;simp only[eY]at J;rw[J];clear J;clear hF;generalize xs 0=x0 at*
  generalize xs 1=x1 at*
  generalize xs 2=x2 at*
  generalize xs 3=x3 at*
  generalize xs 4=x4 at*
  generalize xs 5=x5 at*
  generalize xs 6=x6 at*
  generalize xs 7=x7 at*
  generalize xs 8=x8 at*
  generalize xs 9=x9 at*
  generalize xs 10=x10 at*
  generalize xs 11=x11 at*
  generalize xs 12=x12 at*
  generalize xs 13=x13 at*
  generalize xs 14=x14 at*
  go_wp2_with fail
  go_ret;exact⟨rfl,aA.out.trans (hR.mono aA.out.size)⟩
end
def Po.wY(x:Int):Nat:=(x%16).toNat
theorem Po.DN(x:Int):Po.wY x<16:=by unfold Po.wY;omega
theorem Po.DO(x:Int):(IntKind.u64.wrap x).tmod 16=(Po.wY x:Int):=by
 rw[IntKind.wrap_u64,Int.tmod_eq_emod_of_nonneg (by omega)];unfold Po.wY;omega
def ft(Z:Nat->Prop)(w:World)(v:Value)(L:List Po.Pg):Prop:=
 ∃l:List Pp,jI 0 w v l/\l.length=L.length/\(∀b,v.ownBlock=some b->Z b)/\∀k,k<L.length->(l.getD k dP).1=(L.getD k (0,[])).1/\Own 0 w (l.getD k dP).2 (L.getD k (0,[])).2/\∀b,(l.getD k dP).2.ownBlock=some b->Z b
theorem ld{T:Nat->Prop}{w w':World}{v:Value}{l:List Pp}(h:jI 0 w v l)(b:Touch T w w')(hs:∀k,v.ownBlock=some k->¬T k):jI 0 w' v l:=by
 refine⟨h.1,?_⟩;rcases h.2 with e|⟨g,cap,cur,a,d,c,r⟩
 ·exact Or.inl e
 ·exact Or.inr ⟨g,cap,cur,a,d,b.row c (hs g (by rw[a];rfl)),r⟩
theorem kt{w:World}{v:Value}{l:List Pp}(h:jI 0 w v l){k:Nat}(a:v.ownBlock=some k):k<w.heap.size/\∃cs,w.heap[k]?=some (.cells cs 59 (0,0)):=by
 rcases h.2 with⟨rfl,-⟩|⟨g,cap,cur,c,d,b,r⟩
 ·cases a
 ·rw[c]at a;simp only[Value.ownBlock,Option.some.injEq]at a;subst a;exact⟨lt_of_block b,cur,b⟩
section
variable{Z Z' T:Nat->Prop}{w w':World}{v:Value}{L:List Po.Pg}
theorem ft.al(h:ft Z w v L)(d:Touch T w w')(hs:∀i,Z i->¬T i):ft Z w' v L:=by
 obtain⟨l,j,g,e,c⟩:=h;exact⟨l,ld j d fun k a=>hs k (e k a),g,e,fun k a=>⟨(c k a).1,(c k a).2.1.al d fun b f=>hs b ((c k a).2.2 b f),(c k a).2.2⟩⟩
theorem ft.mono(h:ft Z w v L)(hz:∀i,Z i->Z' i):ft Z' w v L:=by
 obtain⟨l,g,f,e,d⟩:=h;exact⟨l,g,f,fun b c=>hz b (e b c),fun k a=>⟨(d k a).1,(d k a).2.1,fun b c=>hz b ((d k a).2.2 b c)⟩⟩
theorem ft.row(h:ft Z w v L){x:Value}{g:List Pp}(i:jI 0 w x g)(f:w.grownBy w' x.ownBlock)(d:∀b,v.ownBlock=some b->x.ownBlock≠some b):ft Z w' v L:=by
 obtain⟨l,n,m,j,c⟩:=h;refine⟨l,n.grown f ?_,m,j,fun k a=>⟨(c k a).1,(c k a).2.1.grown f (lE (c k a).2.1.own i (by decide)),(c k a).2.2⟩⟩;cases e:v.ownBlock with
 |none=>exact Or.inl rfl
 |some b=>exact Or.inr (fun o=>d b e o.symm)
theorem ft.slice(h:ft Z w v L):∃p c,v=.slice p L.length c:=by
 obtain⟨l,b,a,-⟩:=h;rcases b.form with⟨rfl,rfl⟩|⟨g,c,rfl,-⟩
 ·have:L.length=0:=by rw[<-a];rfl
  exact⟨none,0,by rw[this]⟩
 ·exact⟨_,c,by rw[a]⟩
theorem ft.append(h:ft Z w v L)(ty:TypeId){g k:Nat}{u:Value}{m:List Nat}(B:w.cell? ⟨g,0,none⟩=some (.int .u64 (k:Int)))(A:w.cell? ⟨g,1,none⟩=some u)(hu:Own 0 w u m)(hl:L.length<=1000):
 ∃f w',(Builtin.append_ #[36,36] ty #[v,.slice (some ⟨g,0,none⟩) 1 1]).run Tryz.prog w=.ok f w'/\w.grownBy w' v.ownBlock/\(f.ownBlock=v.ownBlock\/f.ownBlock=some w.heap.size)/\
  (∃p c,f=.slice p (L.length+1) c)/\ft (fun b=>Z b\/f.ownBlock=some b\/u.ownBlock=some b) w' f (L++[(k,m)]):=by
 obtain⟨l,D,q,K,o⟩:=h;obtain⟨i0,I,t,s,r⟩:=info_parts E2;have y:u.oneCell'=true:=by
  obtain⟨p,c,e,-⟩:=hu.bz.form;rw[e];rfl
 obtain⟨f,w',G,d,a,-,C⟩:=run_append_own_at (P:=Tryz.prog) w 0 36 ty 59 i0 (.agg #[.int .u64 0,.slice none 0 0]) 2 32 Tryz.underlying36 I t s r rfl (by decide) v l.length (dL l) D ⟨g,0,none⟩ 1 1 (dL [(k,u)]) rfl (by
  intro j x i;have H:j<2:=by
   rcases Nat.lt_or_ge j 2 with h|h
   ·exact h
   ·rw[List.getElem?_eq_none (by rw[kV];exact h)]at i;cases i
  have z:j=0\/j=1:=by omega
  rcases z with rfl|rfl
  ·have e:some (Value.int .u64 (k:Int))=some x:=i;exact B.trans e
  ·have e:some u=some x:=i;exact A.trans e) (wN [(k,u)] (fun x E=>by rw[List.mem_singleton]at E;subst E;exact y)) (by unfold maxLen;omega) (by omega) (Nat.zero_le _)
 rw[<-qB,show l.length+1=(l++[(k,u)]).length by simp]at d;have F:jI 0 w' f (l++[(k,u)]):=d;refine⟨f,w',G,a,C,?_,l++[(k,u)],F,by simp[q],fun b n=>Or.inr (Or.inl n),fun j i=>?_⟩
 ·rcases F.form with⟨-,e⟩|⟨J,c,e,-⟩
  ·simp at e
  ·refine⟨some ⟨J,0,none⟩,c,?_⟩;rw[e];simp[q]
 ·rw[List.length_append,List.length_singleton]at i;by_cases he:j<L.length
  ·rw[pH _ _ _ _ (by rw[q];exact he),pH _ _ _ _ he];exact⟨(o j he).1,(o j he).2.1.grown a (lE (o j he).2.1.own D (by decide)),fun b n=>Or.inl ((o j he).2.2 b n)⟩
  ·obtain rfl:j=L.length:=by omega
   rw[mj,<-q,mj];exact⟨rfl,hu.grown a (lE hu.own D (by decide)),fun b n=>Or.inr (Or.inr n)⟩
theorem ft.at{p:Option Addr}{n c:Nat}(h:ft Z w (.slice p n c) L){k:Nat}(a:k<L.length):∃g u,p=some ⟨g,0,none⟩/\w.cell? ⟨g,k*2,none⟩=some (.int .u64 ((L.getD k (0,[])).1:Int))/\w.cell? ⟨g,k*2+1,none⟩=some u/\Own 0 w u (L.getD k (0,[])).2:=by
 obtain⟨l,d,i,m,b⟩:=h;rcases d.form with⟨-,rfl⟩|⟨g,o,e,-⟩
 ·rw[List.length_nil]at i;omega
 ·simp only[Value.slice.injEq]at e;obtain⟨rfl,rfl,rfl⟩:=e;obtain⟨f,j⟩:=d.at k (by omega);rw[(b k a).1]at f;exact⟨g,_,rfl,f,j,(b k a).2.1⟩
end
structure fV(e:Nat)(Z:Nat->Prop)(g:Nat)(w:World)(vs:List Value)(LL:List (List Po.Pg)):Prop where
 len:LL.length=16
 nQ:vs.length=16
 row:w.heap[g]?=some (.cells vs.toArray 69 (0,0))
 at_:∀i,i<16->i≠e->ft Z w (vs.getD i undef) (LL.getD i [])
 ap:∀i j,i<16->j<16->i≠j->∀b,(vs.getD i undef).ownBlock=some b->(vs.getD j undef).ownBlock≠some b
 zg:Z g
abbrev qD:=fV 16
theorem aZ{α:Type}(l:List α){i:Nat}(x d:α)(a:i<l.length):(l.set i x).getD i d=x:=by
 rw[List.getD_eq_getElem?_getD,List.getElem?_set_self a];rfl
theorem bX{α:Type}(l:List α){i j:Nat}(x d:α)(h:i≠j):(l.set i x).getD j d=l.getD j d:=by
 rw[List.getD_eq_getElem?_getD,List.getElem?_set_ne h,<-List.getD_eq_getElem?_getD]
section
variable{Z Z' T:Nat->Prop}{e g:Nat}{w w':World}{vs:List Value}{LL:List (List Po.Pg)}
theorem fV.al(h:fV e Z g w vs LL)(a:Touch T w w')(hs:∀i,Z i->¬T i):fV e Z g w' vs LL:=
 ⟨h.len,h.nQ,a.row h.row (hs g h.zg),fun i b he=>(h.at_ i b he).al a hs,h.ap,h.zg⟩
theorem fV.mono(h:fV e Z g w vs LL)(hz:∀i,Z i->Z' i):fV e Z' g w vs LL:=⟨h.len,h.nQ,h.row,fun i a he=>(h.at_ i a he).mono hz,h.ap,hz g h.zg⟩
theorem fV.cell(h:fV e Z g w vs LL){i:Nat}(a:i<16):w.cell? ⟨g,i,none⟩=some (vs.getD i undef)/\w.frozen? ⟨g,i,none⟩=false:=by
 refine⟨ah h.row i ?_,aI h.row i⟩;rw[List.getElem?_toArray,List.getD_eq_getElem?_getD,List.getElem?_eq_getElem (by rw[h.nQ];exact a)];rfl
theorem fV.grown(h:qD Z g w vs LL){i:Nat}(e:i<16)(k:w.grownBy w' (vs.getD i undef).ownBlock):fV i Z g w' vs LL:=by
 obtain⟨l,m,-⟩:=h.at_ i e (by omega);refine⟨h.len,h.nQ,?_,fun j d a=>(h.at_ j d (by omega)).row m k fun b n c=>h.ap j i d e a b n c,h.ap,h.zg⟩;rw[k.block g (lt_of_block h.row) fun c=>?_]
 ·exact h.row
 ·obtain⟨-,cs,f⟩:=kt m c.symm;rw[h.row]at f;simp at f
theorem fV.stored{i:Nat}(h:fV i Z g w vs LL)(q:i<16){v:Value}{L:List Po.Pg}(f:ft Z' w v L)(hz:∀b,Z b->Z' b)(m:∀j,j<16->j≠i->∀b,v.ownBlock=some b->(vs.getD j undef).ownBlock≠some b):
 qD Z' g (w.setCell ⟨g,i,none⟩ v) (vs.set i v) (LL.set i L):=by
 have s:Touch (·=g) w (w.setCell ⟨g,i,none⟩ v):=Touch.set (S:=(·=g)) g i v rfl;have c:∀{x:Value}{M:List Po.Pg},ft Z' w x M->ft Z' (w.setCell ⟨g,i,none⟩ v) x M:=fun{x M}y=>by
  obtain⟨l,t,C,B,r⟩:=y;refine⟨l,ld t s fun k c e=>?_,C,B,fun k c=>⟨(r k c).1,(r k c).2.1.al s fun b a e=>?_,(r k c).2.2⟩⟩
  ·obtain⟨-,cs,o⟩:=kt t c;rw[show k=g from e,h.row]at o;simp at o
  ·rcases(r k c).2.1.own.2 with⟨f,-⟩|⟨D,cap,cur,f,z,o,-⟩
   ·rw[f]at a;cases a
   ·rw[f]at a;simp only[Value.ownBlock,Option.some.injEq]at a;rw[a,show b=g from e,h.row]at o;simp at o
 refine⟨by rw[List.length_set];exact h.len,by rw[List.length_set];exact h.nQ,?_,fun j p _=>?_,fun j k p n d b a=>?_,hz g h.zg⟩
 ·rw[aT h.row];simp
 ·by_cases e:i=j
  ·subst e;rw[aZ _ _ _ (by rw[h.nQ];exact q),aZ _ _ _ (by rw[h.len];exact q)];exact c f
  ·rw[bX _ _ _ e,bX _ _ _ e];exact c ((h.at_ j p (Ne.symm e)).mono hz)
 ·by_cases e:i=j
  ·subst e;rw[aZ _ _ _ (by rw[h.nQ];exact q)]at a;rw[bX _ _ _ d];exact m k n (Ne.symm d) b a
  ·rw[bX _ _ _ e]at a;by_cases u:i=k
   ·subst u;rw[aZ _ _ _ (by rw[h.nQ];exact q)];exact fun A=>m j p (Ne.symm e) b A a
   ·rw[bX _ _ _ u];exact h.ap j k p n d b a
end
def kX(g:Nat)(w:World)(sf:List Nat):Prop:=sf.length=16/\w.heap[g]?=some (.cells (sf.map fun k:Nat=>Value.int .i64 (k:Int)).toArray 70 (0,0))
section
variable{Z T:Nat->Prop}{g:Nat}{w w':World}{sf:List Nat}
theorem kX.al(h:kX g w sf)(a:Touch T w w')(hs:¬T g):kX g w' sf:=⟨h.1,a.row h.2 hs⟩
theorem kX.cell(h:kX g w sf){i:Nat}(a:i<16):w.cell? ⟨g,i,none⟩=some (.int .i64 ((sf.getD i 0:Nat):Int))/\w.frozen? ⟨g,i,none⟩=false:=by
 refine⟨ah h.2 i ?_,aI h.2 i⟩;rw[List.getElem?_toArray,List.getElem?_map,List.getD_eq_getElem?_getD,List.getElem?_eq_getElem (by rw[h.1];exact a)];rfl
theorem kX.set(h:kX g w sf)(i k:Nat):kX g (w.setCell ⟨g,i,none⟩ (.int .i64 (k:Int))) (sf.set i k):=by
 refine⟨by rw[List.length_set];exact h.1,?_⟩;rw[aT h.2,List.map_set];simp
end
theorem kC{α:Type}{l:List α}{x:α}{k:Nat}(h:l.getLast?=some x)(b:k<l.length):x∈l.drop k:=by
 have a:(l.drop k).getLast?=some x:=by rw[List.getLast?_drop,if_neg (by omega)];exact h
 exact List.mem_of_getLast? a
theorem uK{α:Type}{l:List α}{x:α}{k:Nat}(y:α)(h:x∈l.drop k):x∈(l++[y]).drop k:=by
 rw[List.drop_append];exact List.mem_append_left _ h
section
variable{PD:(Nat->Prop)->World->Nat->Dk.aq->Prop}{PL:(Nat->Prop)->(Nat->Prop)->World->Nat->Nat->Dk.aq->Wl.S->Prop}{PO:(Nat->Prop)->World->Nat->Nat->Nat->Po.S->Prop}{Hd:Dk.aq->Wl.S->Prop}{Hw:Dk.aq->Po.Ar->(Nat->Po.Pg)->Prop}{Hp:Dk.aq->Po.Ar->(Nat->Po.Pg->Prop)->Prop}
variable{U V X Z Z':Nat->Prop}{w w' w0:World}{B L P base g sb F K:Nat}{d:Dk.aq}{lg:Wl.S}{s:Po.S}{vs:List Value}{LL MM:List (List Po.Pg)}{sf:List Nat}
structure Mem(Z:Nat->Prop)(base g sb:Nat)(w0 w:World)(vs:List Value)(LL:List (List Po.Pg))(sf:List Nat):Prop where
 eP:qD Z g w vs LL
 safe:kX sb w sf
 zs:Z sb
 ns:sb≠g
 zb:∀i,Z i->base<=i/\i<w.heap.size
 wX:Below base w0 w
 bw:base<=w.heap.size
 qg:∀j,j<16->(LL.getD j []).length<=100
theorem Mem.al{T:Nat->Prop}(h:Mem Z base g sb w0 w vs LL sf)(a:Touch T w w')(hs:∀i,Z i->¬T i)(c:Below base w w'):Mem Z base g sb w0 w' vs LL sf:=
 ⟨h.eP.al a hs,h.safe.al a (hs sb h.zs),h.zs,h.ns,fun i b=>⟨(h.zb i b).1,Nat.lt_of_lt_of_le (h.zb i b).2 a.size⟩,h.wX.trans c,Nat.le_trans h.bw a.size,h.qg⟩
theorem Mem.below(h:Mem Z base g sb w0 w vs LL sf)(a:Below w.heap.size w w'):Mem Z base g sb w0 w' vs LL sf:=
 h.al (T:=fun i=>w.heap.size<=i) (.dC a fun _ _ h=>h) (fun i b=>by have:=(h.zb i b).2;omega) (a.mono h.bw)
structure lG(PL:(Nat->Prop)->(Nat->Prop)->World->Nat->Nat->Dk.aq->Wl.S->Prop)(PO:(Nat->Prop)->World->Nat->Nat->Nat->Po.S->Prop)(Hw:Dk.aq->Po.Ar->(Nat->Po.Pg)->Prop)(base g sb F K:Nat)(U V X Z:Nat->Prop)(w0 w:World)(B L P:Nat)(d:Dk.aq)(lg:Wl.S)(s:Po.S)(vs:List Value)(LL MM:List (List Po.Pg))(sf:List Nat):Prop where
 at_:jH PL PO Hw base U V X w B L P d lg s
 bG:Wl.aY 120 d
 ar:s.ar=Po.eu
 fr:s.aC=F
 pins:∀j,s.pins j=0
 ep:lg.ai=1
 la:lg.at_=0/\lg.count=30
 stop:lg.stop<=52+27*K
 mem:Mem Z base g sb w0 w vs LL sf
 ap:∀i,eO U V X i->¬Z i
 now:∀j,j<16->(MM.getD j []).getLast?=some (s.now j)
 sl:∀j,j<16->sf.getD j 0<(MM.getD j []).length
 dk:∀j,j<16->s.bJ j∈(MM.getD j []).drop (sf.getD j 0)
 qg:∀j,j<16->(MM.getD j []).length<=K+1
 same:LL=MM\/∃n x,n<16/\LL=MM.set n (MM.getD n []++[x])
 len:MM.length=16
theorem lG.mm(h:lG PL PO Hw base g sb F K U V X Z w0 w B L P d lg s vs LL MM sf){j:Nat}{x:Po.Pg}(a:x∈(MM.getD j []).drop (sf.getD j 0)):x∈(LL.getD j []).drop (sf.getD j 0):=by
 rcases h.same with e|⟨n,y,c,e⟩
 ·rw[e];exact a
 ·rw[e];by_cases b:n=j
  ·subst b;rw[aZ _ _ _ (by rw[h.len];exact c)];exact uK y a
  ·rw[bX _ _ _ b];exact a
theorem lG.below(A:cQ PD PL PO Hd Hw Hp)(h:lG PL PO Hw base g sb F K U V X Z w0 w B L P d lg s vs LL MM sf)(a:Below w.heap.size w w'):lG PL PO Hw base g sb F K U V X Z w0 w' B L P d lg s vs LL MM sf:=
 ⟨h.at_.below A a,h.bG,h.ar,h.fr,h.pins,h.ep,h.la,h.stop,h.mem.below a,h.ap,h.now,h.sl,h.dk,h.qg,h.same,h.len⟩
theorem lG.free(h:lG PL PO Hw base g sb F K U V X Z w0 w B L P d lg s vs LL MM sf)(a:1<=F):¬Po.Full s:=Po.fA h.pins (by rw[h.fr];exact a)
structure FU(PD:(Nat->Prop)->World->Nat->Dk.aq->Prop)(Hd:Dk.aq->Wl.S->Prop)(Hp:Dk.aq->Po.Ar->(Nat->Po.Pg->Prop)->Prop)(base g sb:Nat)(U Z:Nat->Prop)(w0 w:World)(B:Nat)(d:Dk.aq)(lg:Wl.S)(vs:List Value)(LL:List (List Po.Pg))(sf:List Nat)(c:Nat->Po.Pg->Prop):Prop where
 dev:PD U w B d
 bG:Wl.aY 120 d
 hd:∀a,Hd (Dk.ay d a) lg/\Hp (Dk.ay d a) Po.eu c
 cc:∀k x,k<16->c k x->x∈(LL.getD k []).drop (sf.getD k 0)/\x.1<lg.ae
 ep:lg.ai=1
 la:lg.at_=0/\lg.count=30
 stop:lg.stop<=52+27*61
 aQ:Wl.Good lg
 mem:Mem Z base g sb w0 w vs LL sf
 fu:km base U
 ap:∀i,U i->¬Z i
theorem lG.ends(A:cQ PD PL PO Hd Hw Hp)(C:xf PD PL Hd Hw Hp)(h:lG PL PO Hw base g sb F K U V X Z w0 w B L P d lg s vs LL MM sf)(f:K<=61):FU PD Hd Hp base g sb U Z w0 w B d lg vs LL sf fun k x=>x=s.bJ k:=
 ⟨A.dev h.at_.at_.log,h.bG,fun b=>⟨C.uA b h.at_.at_.log,by have:=C.uq b h.bG h.at_.at_.eu;rw[h.ar]at this;exact this⟩,fun k x a e=>by rw[e];exact⟨h.mm (h.dk k a),(h.at_.at_.im k).1⟩,h.ep,h.la,by have:=h.stop;omega,A.BA h.at_.at_.log,h.mem,h.at_.fu,fun i c=>h.ap i (Or.inl c)⟩
def G9(PD:(Nat->Prop)->World->Nat->Dk.aq->Prop)(Hd:Dk.aq->Wl.S->Prop)(Hp:Dk.aq->Po.Ar->(Nat->Po.Pg->Prop)->Prop)(U V X:Nat->Prop)(w:World)(B:Nat)(lg:Wl.S)(s:Po.S)(w':World):Prop:=
 ∃e b a c,PD e w' B b/\Wl.aY 120 b/\Touch (eO U V X) w w'/\br U e w/\Po.Lf lg a/\(∀k x,c k x->(x=s.bJ k\/x=s.now k)/\x.1<a.ae)/\∀d,Hd (Dk.ay b d) a/\Hp (Dk.ay b d) s.ar c
theorem lG.cut(A:cQ PD PL PO Hd Hw Hp)(h:lG PL PO Hw base g sb F K U V X Z w0 w B L P d lg s vs LL MM sf)(D:K<=61)(l:G9 PD Hd Hp U V X w B lg s w'):∃n m a c,FU PD Hd Hp base g sb n Z w0 w' B m a vs LL sf c:=by
 obtain⟨n,m,a,c,C,z,r,q,e,y,p⟩:=l;have u:=r.under (ly h.at_.fu h.at_.fv h.at_.fx) h.mem.bw;rw[h.ar]at p;refine⟨n,m,a,c,C,z,p,fun k x b l=>?_,by rw[e.ai];exact h.ep,by rw[e.at_,e.count];exact h.la,by rw[e.stop];have:=h.stop;omega,(by
  have o:=A.BA h.at_.at_.log;rcases e with rfl|rfl
  ·exact o
  ·exact Wl.pG o),h.mem.al r (fun i j t=>h.ap i t j) u,q.from h.at_.fu h.mem.bw,fun i j hz=>?_⟩
 ·obtain⟨f,v⟩:=y k x l;refine⟨?_,v⟩;rcases f with rfl|rfl
  ·exact h.mm (h.dk k b)
  ·exact h.mm (kC (h.now k b) (h.sl k b))
 ·rcases q i j with f|f
  ·exact h.ap i (Or.inl f) hz
  ·have:=(h.mem.zb i hz).2;omega
theorem lG.rT{p:Dk.aq}{e:Wl.S}{c:Po.S}(h:lG PL PO Hw base g sb F K U V X Z w0 w B L P d lg s vs LL MM sf)(hw:fz PL PO Hw U V X w B L P w' p e c)(D:Wl.aY 120 p)(hl:Po.Lf lg e)(A:c.ar=s.ar)(hf:c.aC=s.aC)(hp:c.pins=s.pins){u:Nat}(I:K<=u)
 {MM':List (List Po.Pg)} (f:∀j,j<16->(MM'.getD j []).getLast?=some (c.now j)) (m:∀j,j<16->sf.getD j 0<(MM'.getD j []).length) (o:∀j,j<16->c.bJ j∈(MM'.getD j []).drop (sf.getD j 0)) (k:∀j,j<16->(MM'.getD j []).length<=u+1) (l:LL=MM'\/∃n x,n<16/\LL=MM'.set n (MM'.getD n []++[x])) (hle:MM'.length=16):
 ∃t r q,lG PL PO Hw base g sb F u t r q Z w0 w' B L P p e c vs LL MM' sf/\Touch (eO U V X) w w':=by
 obtain⟨t,r,q,C,z,hT,H,G,E⟩:=h.at_.rT hw h.mem.bw;refine⟨t,r,q,⟨C,D,A.trans h.ar,hf.trans h.fr,fun j=>by rw[hp];exact h.pins j,by rw[hl.ai];exact h.ep,by rw[hl.at_,hl.count];exact h.la,by rw[hl.stop];have:=h.stop;omega,h.mem.al hT (fun i a v=>h.ap i v a) z,fun i a hz=>?_,f,m,o,k,l,hle⟩,hT⟩;have y:=(h.mem.zb i hz).2;rcases a with a|a|a
 ·rcases H i a with b|b
  ·exact h.ap i (Or.inl b) hz
  ·omega
 ·rcases G i a with b|b
  ·exact h.ap i (Or.inr (Or.inl b)) hz
  ·omega
 ·rcases E i a with b|b
  ·exact h.ap i (Or.inr (Or.inr b)) hz
  ·omega
theorem lG.ae(A:cQ PD PL PO Hd Hw Hp){n:Nat}{f:Dk.aq}{a:Wl.S}{c:Po.S}(h:lG PL PO Hw base g sb F K U V X Z w0 w B L P d lg s vs MM MM sf)(hw:fz PL PO Hw U V X w B L P w' f a c)(q:Wl.aY 120 f)(hl:Po.Lf lg a)(hs:Po.mA s n c){o:Nat}(p:K<=o):
 ∃l k i,lG PL PO Hw base g sb F o l k i Z w0 w' B L P f a c vs MM MM sf/\c.bJ n=c.now n:=by
 obtain⟨l,k,i,m,-⟩:=h.rT hw q hl hs.ar hs.aC hs.pins p (MM':=MM) (fun j b=>by rw[hs.now];exact h.now j b) h.sl (fun j b=>by
  rcases hs.bJ j with e|e
  ·rw[e];exact h.dk j b
  ·rw[e];exact kC (h.now j b) (h.sl j b)) (fun j b=>by have:=h.qg j b;omega) (Or.inl rfl) h.len
 exact⟨l,k,i,m,(A.ud m.at_.at_.own).clean n hs.own⟩
theorem lG.F6(A:cQ PD PL PO Hd Hw Hp){n:Nat}(h:lG PL PO Hw base g sb F K U V X Z w0 w B L P d lg s vs MM MM sf)(C:n<16)(hd:s.bJ n=s.now n):lG PL PO Hw base g sb F K U V X Z w0 (w.setCell ⟨sb,n,none⟩ (.int .i64 (((MM.getD n []).length-1:Nat):Int))) B L P d lg s vs MM MM (sf.set n ((MM.getD n []).length-1)):=by
 have hT:Touch (·=sb) w (w.setCell ⟨sb,n,none⟩ (.int .i64 (((MM.getD n []).length-1:Nat):Int))):=Touch.set (S:=(·=sb)) sb n _ rfl;have r:=h.mem.zb sb h.mem.zs;have c:Below base w (w.setCell ⟨sb,n,none⟩ (.int .i64 (((MM.getD n []).length-1:Nat):Int))):=hT.below (fun i e=>by rw[show i=sb from e];exact r.1) h.mem.bw;have hp:qD Z g (w.setCell ⟨sb,n,none⟩ (.int .i64 (((MM.getD n []).length-1:Nat):Int))) vs MM:=by
  have a:∀{v:Value}{L:List Po.Pg},ft Z w v L->ft Z (w.setCell ⟨sb,n,none⟩ (.int .i64 (((MM.getD n []).length-1:Nat):Int))) v L:=fun u=>by
   obtain⟨l,t,z,y,p⟩:=u;refine⟨l,ld t hT fun k a e=>?_,z,y,fun k a=>⟨(p k a).1,(p k a).2.1.al hT fun b c e=>?_,(p k a).2.2⟩⟩
   ·obtain⟨-,cs,o⟩:=kt t a;rw[show k=sb from e,h.mem.safe.2]at o;simp at o
   ·rcases(p k a).2.1.own.2 with⟨q,-⟩|⟨D,cap,cur,q,x,o,-⟩
    ·rw[q]at c;cases c
    ·rw[q]at c;simp only[Value.ownBlock,Option.some.injEq]at c;rw[c,show b=sb from e,h.mem.safe.2]at o;simp at o
  exact⟨h.mem.eP.len,h.mem.eP.nQ,hT.row h.mem.eP.row (fun e=>h.mem.ns e.symm),fun i m he=>a (h.mem.eP.at_ i m he),h.mem.eP.ap,h.mem.eP.zg⟩
 have hlen:sf.length=16:=h.mem.safe.1;refine⟨⟨A.bQ h.at_.at_ hT fun i m e=>h.ap i m (by rw[show i=sb from e];exact h.mem.zs),h.at_.fu,h.at_.fv,h.at_.fx⟩,h.bG,h.ar,h.fr,h.pins,h.ep,h.la,h.stop,⟨hp,h.mem.safe.set n _,h.mem.zs,h.mem.ns,fun i m=>⟨(h.mem.zb i m).1,Nat.lt_of_lt_of_le (h.mem.zb i m).2 hT.size⟩,h.mem.wX.trans c,Nat.le_trans h.mem.bw hT.size,h.mem.qg⟩,h.ap,h.now,fun j f=>?_,fun j f=>?_,h.qg,Or.inl rfl,h.len⟩
 ·by_cases e:n=j
  ·subst e;rw[aZ _ _ _ (by omega)];have:=h.sl n f;omega
  ·rw[bX _ _ _ e];exact h.sl j f
 ·by_cases e:n=j
  ·subst e;rw[aZ _ _ _ (by omega),hd];have:=h.sl n f;exact kC (h.now n f) (by omega)
  ·rw[bX _ _ _ e];exact h.dk j f
theorem lG.F8{n:Nat}{x:Po.Pg}{k:Dk.aq}{c:Wl.S}{f:Po.S}(h:lG PL PO Hw base g sb F K U V X Z w0 w B L P d lg s vs (MM.set n (MM.getD n []++[x])) MM sf)(t:n<16)(hw:fz PL PO Hw U V X w B L P w' k c f)(q:Wl.aY 120 k)(hl:Po.Lf lg c)(hs:Po.rJ s n x f)(hf:∀j,j<16->(MM.getD j []).length<=K):
 ∃o m l,lG PL PO Hw base g sb F K o m l Z w0 w' B L P k c f vs (MM.set n (MM.getD n []++[x])) (MM.set n (MM.getD n []++[x])) sf:=by
 have i:∀j,j<16->n=j->(MM.set n (MM.getD n []++[x])).getD j []=MM.getD j []++[x]:=fun j a e=>by
  subst e;exact aZ _ _ _ (by rw[h.len];exact a)
 have b:∀j,n≠j->(MM.set n (MM.getD n []++[x])).getD j []=MM.getD j []:=fun j e=>bX _ _ _ e;obtain⟨o,m,l,r,-⟩:=h.rT hw q hl hs.ar hs.aC hs.pins (Nat.le_refl K) (MM':=MM.set n (MM.getD n []++[x])) (fun j a=>by
  rw[hs.now];by_cases e:n=j
  ·rw[i j a e,e,Po.cI];simp
  ·rw[b j e,Po.eD _ _ (Ne.symm e)];exact h.now j a) (fun j a=>by
  have:=h.sl j a;by_cases e:n=j
  ·rw[i j a e,List.length_append];omega
  ·rw[b j e];exact this) (fun j a=>by
  have p:f.bJ j∈(MM.getD j []).drop (sf.getD j 0):=by
   rcases hs.bJ j with e|e
   ·rw[e];exact h.dk j a
   ·rw[e];exact kC (h.now j a) (h.sl j a)
  by_cases e:n=j
  ·rw[i j a e];exact uK x p
  ·rw[b j e];exact p) (fun j a=>by
  have:=hf j a;by_cases e:n=j
  ·rw[i j a e,List.length_append,List.length_singleton];omega
  ·rw[b j e];omega) (Or.inl rfl) (by rw[List.length_set];exact h.len)
 exact⟨o,m,l,r⟩
end
section
variable{PD:(Nat->Prop)->World->Nat->Dk.aq->Prop}{PL:(Nat->Prop)->(Nat->Prop)->World->Nat->Nat->Dk.aq->Wl.S->Prop}{PO:(Nat->Prop)->World->Nat->Nat->Nat->Po.S->Prop}{Hd:Dk.aq->Wl.S->Prop}{Hw:Dk.aq->Po.Ar->(Nat->Po.Pg)->Prop}{Hp:Dk.aq->Po.Ar->(Nat->Po.Pg->Prop)->Prop}
variable{U V X Y:Nat->Prop}{w w':World}{B L P Q base g F:Nat}{d:Dk.aq}{lg:Wl.S}{s t:Po.S}{LL:List (Nat×List Nat)}
def Po.Clean(s:Po.S)(f:Nat->Po.Pg):Prop:=s.now=f/\∀k,s.first k=none
theorem Po.Clean.Gc{f:Nat->Po.Pg}(h:Po.Clean s f)(m:Po.qb s t)(g:Po.Good t):Po.Clean t f:=by
 refine⟨m.now.trans h.1,fun k=>?_⟩;by_cases a:k∈t.held
 ·rw[m.first k a];exact h.2 k
 ·exact g.pJ a
structure ID(PL:(Nat->Prop)->(Nat->Prop)->World->Nat->Nat->Dk.aq->Wl.S->Prop)(PO:(Nat->Prop)->World->Nat->Nat->Nat->Po.S->Prop)(Hw:Dk.aq->Po.Ar->(Nat->Po.Pg)->Prop)(base:Nat)(U V X Y:Nat->Prop)(w:World)(B L P Q:Nat)(d:Dk.aq)(lg:Wl.S)(s t:Po.S)(f:Nat->Po.Pg):Prop where
 a:jH PL PO Hw base U V X w B L P d lg s
 b:jH PL PO Hw base U V Y w B L Q d lg t
 ap:∀i,X i->¬Y i
 ca:Po.Clean s f
 cb:Po.Clean t f
end
structure Made(T:TypeId)(z:Value)(base:Nat)(w:World)(v:Value):Prop where
 ex:∃g,v=.slice (some ⟨g,0,none⟩) 16 16/\base<=g/\w.heap[g]?=some (.cells (List.replicate 16 z).toArray T (0,0))
structure IC(base:Nat)(w:World)(v:Value):Prop where
 ex:∃R a b c,v=.pointer (some ⟨R,0,none⟩)/\base<=R/\w.heap[R]?=some (.cells #[.slice none 0 0,a,b,c] 40 (0,0))/\Made 56 (.int .u64 0) base w a/\Made 4 (.bool false) base w b/\Made 3 (.int .i64 0) base w c
theorem iO(D:Nat->Bool)(k:Nat):Ord.bP D k k=true:=if_pos rfl
theorem bO(D:Nat->Bool){k j:Nat}(h:j≠k):Ord.bP D k j=D j:=if_neg h
theorem iW(xs:Nat->Value)(k:Nat)(v:Value):Ord.set xs k v k=v:=if_pos rfl
theorem dz(xs:Nat->Value){k j:Nat}(v:Value)(h:j≠k):Ord.set xs k v j=xs j:=if_neg h
end Go.Proofs.YtbpodmallknhfaaGreat
namespace Go.Proofs.YtbpodmallknhfaaGreat
namespace Po
theorem gZ{α:Type}{l:List α}{m k:Nat}{x d:α}(h:m<l.length):(l.set m x).getD k d=if k=m then x else l.getD k d:=by
 rw[List.getD_eq_getElem?_getD,List.getElem?_set];by_cases e:m=k
 ·subst e;rw[if_pos rfl,if_pos rfl,if_pos h];rfl
 ·rw[if_neg e,if_neg (Ne.symm e),<-List.getD_eq_getElem?_getD]
end Po
end Go.Proofs.YtbpodmallknhfaaGreat
namespace Go.Proofs.YtbpodmallknhfaaGreat.Rg
open Go.Proofs.YtbpodmallknhfaaGreat
def mark:List Nat:=[112,117,116,32,98,97,99,107,32]
def tag(n t:Nat):List Nat:=mark++[t,n%256,n/256%256]
def part(k:Nat)(l:List Nat)(i:Nat):List Nat:=(l.drop (k*i)).take k
def row(t b:List Nat)(m:Nat):List Nat:=(List.range m).flatMap fun i=>t++part 52 b i
def laid(b t:List Nat):List Nat:=row t b 10++List.replicate 8 0
def sI(s:List Nat)(m:Nat):List Nat:=(List.range m).map fun i=>(part 64 s i).getD 9 0
def gO(s:List Nat):Nat:=s.getD 9 0
def dU(s:List Nat):Nat:=s.getD 10 0+256*s.getD 11 0
def Told(s:List Nat):Prop:=∀i,i<10->(part 64 s i).take 12=tag (dU s) (gO s)
def rest(s:List Nat)(m:Nat):List Nat:=(List.range m).flatMap fun i=>(part 64 s i).drop 12
def cut(s:List Nat):List Nat:=(rest s 10).take 512
def Whole(s:List Nat)(n:Nat)(x:Po.Pg):Prop:=Told s/\dU s=n/\Pg.cD (cut s)=0/\x=(Pg.cC (cut s),Pg.cZ (cut s))
theorem cp(n t:Nat):(tag n t).length=12:=rfl
theorem Ey(n t:Nat):(tag n t).getD 10 0=n%256:=rfl
theorem Ez(n t:Nat):(tag n t).getD 11 0=n/256%256:=rfl
theorem rZ{n t:Nat}(b:t<256):∀x∈tag n t,x<256:=by
 intro x a;simp only[tag,mark,List.cons_append,List.nil_append,List.mem_cons,List.not_mem_nil,or_false]at a;omega
theorem eG{k:Nat}{l:List Nat}{i:Nat}(h:k*(i+1)<=l.length):(part k l i).length=k:=by
 have:k*(i+1)=k*i+k:=Nat.mul_succ k i;simp only[part,List.length_take,List.length_drop];omega
theorem su(k:Nat)(l:List Nat)(i:Nat):(part k l i).length<=k:=by simp only[part,List.length_take];omega
theorem jt{k:Nat}{l:List Nat}(h:∀x∈l,x<256)(i:Nat):∀x∈part k l i,x<256:=fun x a=>h x (List.mem_of_mem_drop (List.mem_of_mem_take a))
theorem gX(k:Nat)(l:List Nat):∀m:Nat,(List.range m).flatMap (part k l)=l.take (k*m)
 |0=>by simp
 |m+1=>by
  rw[List.range_succ,List.flatMap_append,gX k l m,Nat.mul_succ];simp only[List.flatMap_cons,List.flatMap_nil,List.append_nil];rw[List.take_add];rfl
theorem mY{a b:List Nat}(j:a.length=640)(g:b.length=640)(h:∀i,i<10->part 64 a i=part 64 b i):a=b:=by
 have e:=gX 64 a 10;have d:=gX 64 b 10;rw[List.take_of_length_le (by omega)]at e d;rw[<-e,<-d];have:∀l:List Nat,(∀i∈l,i<10)->l.flatMap (part 64 a)=l.flatMap (part 64 b):=by
  intro l;induction l with
  |nil=>intro _;rfl
  |cons x l f=>
   intro hl;rw[List.flatMap_cons,List.flatMap_cons,h x (hl x (List.mem_cons_self ..)),f fun i c=>hl i (List.mem_cons_of_mem _ c)]
 exact this _ fun i c=>List.mem_range.1 c
theorem lN(t b:List Nat)(m:Nat):row t b (m+1)=row t b m++(t++part 52 b m):=by
 unfold row;rw[List.range_succ,List.flatMap_append];simp only[List.flatMap_cons,List.flatMap_nil,List.append_nil]
theorem jq{t b:List Nat}(a:t.length=12)(c:b.length=512):∀m,m<=9->(row t b m).length=64*m
 |0,_=>rfl
 |m+1,h=>by
  rw[lN,List.length_append,List.length_append,jq a c m (by omega),a,eG (by omega)];omega
theorem qZ{b:List Nat}(a:b.length=512):(part 52 b 9).length=44:=by
 simp only[part,List.length_take,List.length_drop];omega
theorem tH{t b:List Nat}(a:t.length=12)(c:b.length=512):(row t b 10).length=632:=by
 rw[lN,List.length_append,List.length_append,jq a c 9 (by omega),a,qZ c]
theorem eJ{t b:List Nat}(a:t.length=12)(c:b.length=512):(laid b t).length=640:=by
 unfold laid;rw[List.length_append,tH a c,List.length_replicate]
theorem AR{t b:List Nat}(c:∀x∈t,x<256)(e:∀x∈b,x<256)(m:Nat):∀x∈row t b m,x<256:=by
 intro x a;unfold row at a;obtain⟨i,-,d⟩:=List.mem_flatMap.1 a;rcases List.mem_append.1 d with h|h
 ·exact c x h
 ·exact jt e i x h
theorem oc{t b:List Nat}(c:∀x∈t,x<256)(d:∀x∈b,x<256):∀x∈laid b t,x<256:=by
 intro x a;rcases List.mem_append.1 a with h|h
 ·exact AR c d 10 x h
 ·rw[List.eq_of_mem_replicate h];decide
theorem o0{a c:List Nat}{i:Nat}(h:64*(i+1)<=a.length):part 64 (a++c) i=part 64 a i:=by
 have:64*(i+1)=64*i+64:=by omega
 unfold part;rw[List.drop_append_of_le_length (by omega),List.take_append_of_le_length (by rw[List.length_drop];omega)]
theorem xu{a c:List Nat}{i:Nat}(h:a.length=64*i)(b:c.length<=64):part 64 (a++c) i=c:=by
 unfold part;rw[List.drop_left' h,List.take_of_length_le b]
theorem tG{t b:List Nat}(a:t.length=12)(c:b.length=512):∀m,m<=9->∀i,i<m->part 64 (row t b m) i=t++part 52 b i
 |0,_,_,h=>absurd h (Nat.not_lt_zero _)
 |m+1,hm,i,hi=>by
  rw[lN];have hl:=jq a c m (by omega);rcases Nat.lt_or_ge i m with h|h
  ·rw[o0 (by rw[hl];omega),tG a c m (by omega) i h]
  ·obtain rfl:i=m:=by omega
   exact xu hl (by rw[List.length_append,a,eG (by omega)];omega)
theorem wj(b t:List Nat):laid b t=row t b 9++((t++part 52 b 9)++List.replicate 8 0):=by
 unfold laid;rw[lN,List.append_assoc]
theorem rl{t b:List Nat}(a:t.length=12)(c:b.length=512){i:Nat}(d:i<10):part 64 (laid b t) i=if i<9 then t++part 52 b i else(t++part 52 b 9)++List.replicate 8 0:=by
 rw[wj];have hl:=jq a c 9 (Nat.le_refl _);by_cases h:i<9
 ·rw[if_pos h,o0 (by rw[hl];omega),tG a c 9 (Nat.le_refl _) i h]
 ·obtain rfl:i=9:=by omega
  rw[if_neg h];exact xu hl (by rw[List.length_append,List.length_append,a,qZ c,List.length_replicate];decide)
theorem kD{t b:List Nat}(a:t.length=12)(d:b.length=512){i:Nat}(c:i<10):(part 64 (laid b t) i).take 12=t:=by
 rw[rl a d c];split
 ·exact List.take_left' a
 ·rw[List.append_assoc];exact List.take_left' a
theorem rp{t b:List Nat}(a:t.length=12)(d:b.length=512){i:Nat}(c:i<10):(part 64 (laid b t) i).drop 12=if i<9 then part 52 b i else part 52 b 9++List.replicate 8 0:=by
 rw[rl a d c];by_cases h:i<9
 ·rw[if_pos h,if_pos h,List.drop_left' a]
 ·rw[if_neg h,if_neg h,List.append_assoc,List.drop_left' a]
theorem mL(s:List Nat)(m:Nat):rest s (m+1)=rest s m++(part 64 s m).drop 12:=by
 unfold rest;rw[List.range_succ,List.flatMap_append];simp only[List.flatMap_cons,List.flatMap_nil,List.append_nil]
theorem qR{t b:List Nat}(a:t.length=12)(c:b.length=512):∀m,m<=9->rest (laid b t) m=(List.range m).flatMap (part 52 b)
 |0,_=>rfl
 |m+1,h=>by
  rw[mL,qR a c m (by omega),rp a c (by omega),if_pos (by omega),List.range_succ,List.flatMap_append];simp only[List.flatMap_cons,List.flatMap_nil,List.append_nil]
theorem uL{t b:List Nat}(c:t.length=12)(a:b.length=512):cut (laid b t)=b:=by
 unfold cut;rw[mL,qR c a 9 (Nat.le_refl _),rp c a (by decide),if_neg (by decide),<-List.append_assoc];have e:=gX 52 b 10;rw[List.take_of_length_le (by omega),List.range_succ,List.flatMap_append]at e;simp only[List.flatMap_cons,List.flatMap_nil,List.append_nil]at e;rw[e,List.take_left' a]
theorem gG{k:Nat}{l:List Nat}{i j:Nat}(a:j<k):(part k l i).getD j 0=l.getD (k*i+j) 0:=by
 unfold part;simp only[List.getD_eq_getElem?_getD,List.getElem?_take,List.getElem?_drop,if_pos a]
theorem fh{l:List Nat}{n j:Nat}(a:j<n):(l.take n).getD j 0=l.getD j 0:=by
 simp only[List.getD_eq_getElem?_getD,List.getElem?_take,if_pos a]
theorem yn(s:List Nat):gO s=(part 64 s 0).getD 9 0:=by rw[gG (by decide)];rfl
theorem yQ(s:List Nat):dU s=(part 64 s 0).getD 10 0+256*(part 64 s 0).getD 11 0:=by
 rw[gG (by decide),gG (by decide)];rfl
theorem zh{n t:Nat}{b:List Nat}(a:b.length=512):gO (laid b (tag n t))=t:=by
 rw[yn,<-fh (n:=12) (by decide),kD (cp n t) a (by decide)];rfl
theorem rn{n t:Nat}{b:List Nat}(a:b.length=512)(c:n<65536):dU (laid b (tag n t))=n:=by
 rw[yQ,<-fh (n:=12) (by decide),<-fh (n:=12) (j:=11) (by decide),kD (cp n t) a (by decide),Ey,Ez];omega
theorem oo{n t:Nat}{x:Po.Pg}(a:Po.cK x)(c:n<65536):Whole (laid (Pg.form x.1 x.2) (tag n t)) n x:=by
 have b:(Pg.form x.1 x.2).length=512:=by rw[Pg.bq,a.2.1]
 refine⟨fun i d=>?_,rn b c,?_,?_⟩
 ·rw[kD (cp n t) b d,zh b,rn b c]
 ·rw[uL (cp n t) b];exact Pg.jx a.2.2 a.2.1
 ·rw[uL (cp n t) b,Pg.pc a.2.2 a.2.1 a.1,Pg.pe a.2.2 a.2.1]
def Hq(a b c:List Nat):Prop:=c.length=640/\∀i,i<10->part 64 c i=part 64 a i\/part 64 c i=part 64 b i
theorem DH{s:List Nat}{m i:Nat}(h:i<m):(part 64 s i).getD 9 0∈sI s m:=List.mem_map.2 ⟨i,List.mem_range.2 h,rfl⟩
theorem Bt{a c:List Nat}{n t:Nat}{b:List Nat}(m:a.length=640)(j:b.length=512)(k:t∉sI a 10)(hm:Hq a (laid b (tag n t)) c)(l:Told c):c=a\/c=laid b (tag n t):=by
 have hl:=eJ (cp n t) j;have f:∀i,i<10->(part 64 c i).getD 9 0=gO c:=fun i d=>by
  rw[<-fh (n:=12) (by decide),l i d];rfl
 have g:∀i,i<10->part 64 c i=part 64 (laid b (tag n t)) i->gO c=t:=fun i d e=>by
  rw[<-f i d,e,<-fh (n:=12) (by decide),kD (cp n t) j d];rfl
 have hold:∀i,i<10->part 64 c i=part 64 a i->gO c≠t:=fun i d e h=>by
  have:=DH (s:=a) d;rw[<-e,f i d,h]at this;exact k this
 by_cases h:gO c=t
 ·refine Or.inr (mY hm.1 hl fun i d=>?_);rcases hm.2 i d with e|e
  ·exact absurd h (hold i d e)
  ·exact e
 ·refine Or.inl (mY hm.1 m fun i d=>?_);rcases hm.2 i d with e|e
  ·exact e
  ·exact absurd (g i d e) h
theorem oA{s:List Nat}(h:Told s):s.getD 0 0=112/\s.getD 64 0=112:=by
 have h0:=h 0 (by decide);have c:=h 1 (by decide);have b:=gG (k:=64) (l:=s) (i:=0) (j:=0) (by decide);have a:=gG (k:=64) (l:=s) (i:=1) (j:=0) (by decide);rw[<-fh (n:=12) (by decide),h0]at b;rw[<-fh (n:=12) (by decide),c]at a;exact⟨b.symm,a.symm⟩
theorem mM{b:List Nat}(h:Pg.cD b=0):(Pg.cZ b).length=500:=by
 have hl:b.length=512:=by
  unfold Pg.cD at h;split at h
  ·cases h
  ·omega
 unfold Pg.cZ;rw[if_pos h,List.length_drop];omega
end Go.Proofs.YtbpodmallknhfaaGreat.Rg
