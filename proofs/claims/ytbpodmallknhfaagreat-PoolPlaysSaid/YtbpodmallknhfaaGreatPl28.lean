/- Parts of a proof. Conditions: as each row says. -/
import Derived.Test.YtbpodmallknhfaaGreatPl03
import Derived.Test.YtbpodmallknhfaaGreatPl09
import Derived.Shelf.SlLaysZI
import Derived.Shelf.SlLaysM
import Derived.Test.YtbpodmallknhfaaGreatProg
import Derived.Test.YtbpodmallknhfaaGreatChecked
import Derived.KernelRfl
import Derived.Shelf.SlIterI.Nil
import Derived.Shelf.SortM.Plain
import Derived.Shelf.SortM.SortNone
import Derived.Laws.CopyRow
namespace Go.Proofs.YtbpodmallknhfaaGreat
open Go.Shelf
def mO:Go.Shelf.Ren:=⟨fun|6=>39|8=>63|9=>64|11=>94|13=>96|12=>95|23=>139|24=>140|14=>130|15=>131|16=>132|17=>133|18=>134|19=>135|20=>136|21=>137|22=>138|25=>167|26=>168|27=>169|28=>170|29=>171|30=>172|31=>184|n=>n,fun|26=>3|28=>91|24=>34|0=>0|3=>3|37=>125|48=>74|50=>56|4=>4|40=>189|39=>188|45=>131|5=>5|9=>9|51=>218|55=>221|57=>233|58=>234|33=>130|n=>n,fun n=>n⟩
theorem qY:Go.Proofs.SlLaysZI.n6 Tryz.prog mO:={
 mixed:=by kernel_rfl,
 f6:=⟨Tryz.f39.name,by decide,Tryz.func39.trans (Ho some (by kernel_rfl))⟩,
 f8:=⟨Tryz.f63.name,by decide,Tryz.func63.trans (Ho some (by kernel_rfl))⟩,
 f11:=⟨Tryz.f94.name,by decide,Tryz.func94.trans (Ho some (by kernel_rfl))⟩,
 t0:=Tryz.underlying0,
 a0:=Tryz.isAgg0,
 z0:=Tryz.sizeOf0,
 v0:=Tryz.zeroValue0,
 t24:=Tryz.underlying34,
 a24:=Tryz.isAgg34,
 z24:=Tryz.sizeOf34,
 v24:=Tryz.zeroValue34,
 t26:=Tryz.underlying3,
 a26:=Tryz.isAgg3,
 z26:=Tryz.sizeOf3,
 v26:=Tryz.zeroValue3,
 t28:=Tryz.underlying91,
 a28:=Tryz.isAgg91,
 z28:=Tryz.sizeOf91,
 v28:=Tryz.zeroValue91,
 i26:=by kernel_rfl}
def xt:Go.Shelf.Ren:=⟨fun|5=>64|8=>96|7=>95|19=>139|20=>140|10=>130|11=>131|12=>132|13=>133|14=>134|15=>135|16=>136|17=>137|18=>138|30=>167|31=>168|32=>169|33=>170|34=>171|35=>172|40=>184|n=>n,fun|23=>34|25=>3|3=>3|32=>125|22=>34|0=>0|44=>74|46=>56|4=>4|36=>189|35=>188|41=>131|5=>5|9=>9|53=>218|57=>221|63=>233|64=>234|n=>n,fun n=>n⟩
theorem nL:Go.Proofs.SlLaysM.n5 Tryz.prog xt:={
 mixed:=by kernel_rfl,
 f5:=⟨Tryz.f64.name,by decide,Tryz.func64.trans (Ho some (by kernel_rfl))⟩,
 f7:=⟨Tryz.f95.name,by decide,Tryz.func95.trans (Ho some (by kernel_rfl))⟩,
 f8:=Tryz.func96.trans (Ho some (by kernel_rfl)),
 f10:=⟨Tryz.f130.name,by decide,Tryz.func130.trans (Ho some (by kernel_rfl))⟩,
 f11:=⟨Tryz.f131.name,by decide,Tryz.func131.trans (Ho some (by kernel_rfl))⟩,
 f12:=⟨Tryz.f132.name,by decide,Tryz.func132.trans (Ho some (by kernel_rfl))⟩,
 f13:=⟨Tryz.f133.name,by decide,Tryz.func133.trans (Ho some (by kernel_rfl))⟩,
 f14:=⟨Tryz.f134.name,by decide,Tryz.func134.trans (Ho some (by kernel_rfl))⟩,
 f15:=⟨Tryz.f135.name,by decide,Tryz.func135.trans (Ho some (by kernel_rfl))⟩,
 f16:=⟨Tryz.f136.name,by decide,Tryz.func136.trans (Ho some (by kernel_rfl))⟩,
 f17:=⟨Tryz.f137.name,by decide,Tryz.func137.trans (Ho some (by kernel_rfl))⟩,
 f18:=⟨Tryz.f138.name,by decide,Tryz.func138.trans (Ho some (by kernel_rfl))⟩,
 f19:=Tryz.func139.trans (Ho some (by kernel_rfl)),
 f20:=Tryz.func140.trans (Ho some (by kernel_rfl)),
 f30:=⟨Tryz.f167.name,by decide,Tryz.func167.trans (Ho some (by kernel_rfl))⟩,
 f31:=Tryz.func168.trans (Ho some (by kernel_rfl)),
 f32:=Tryz.func169.trans (Ho some (by kernel_rfl)),
 f33:=⟨Tryz.f170.name,by decide,Tryz.func170.trans (Ho some (by kernel_rfl))⟩,
 f34:=⟨Tryz.f171.name,by decide,Tryz.func171.trans (Ho some (by kernel_rfl))⟩,
 f35:=⟨Tryz.f172.name,by decide,Tryz.func172.trans (Ho some (by kernel_rfl))⟩,
 f40:=⟨Tryz.f184.name,by decide,Tryz.func184.trans (Ho some (by kernel_rfl))⟩,
 t0:=Tryz.underlying0,
 a0:=Tryz.isAgg0,
 z0:=Tryz.sizeOf0,
 v0:=Tryz.zeroValue0,
 t3:=Tryz.underlying3,
 a3:=Tryz.isAgg3,
 z3:=Tryz.sizeOf3,
 v3:=Tryz.zeroValue3,
 t4:=Tryz.underlying4,
 a4:=Tryz.isAgg4,
 z4:=Tryz.sizeOf4,
 v4:=Tryz.zeroValue4,
 t5:=Tryz.underlying5,
 a5:=Tryz.isAgg5,
 z5:=Tryz.sizeOf5,
 v5:=Tryz.zeroValue5,
 t9:=Tryz.underlying9,
 a9:=Tryz.isAgg9,
 z9:=Tryz.sizeOf9,
 v9:=Tryz.zeroValue9,
 t22:=Tryz.underlying34,
 a22:=Tryz.isAgg34,
 z22:=Tryz.sizeOf34,
 v22:=Tryz.zeroValue34,
 t23:=Tryz.underlying34,
 a23:=Tryz.isAgg34,
 z23:=Tryz.sizeOf34,
 v23:=Tryz.zeroValue34,
 t25:=Tryz.underlying3,
 a25:=Tryz.isAgg3,
 z25:=Tryz.sizeOf3,
 v25:=Tryz.zeroValue3,
 t32:=Tryz.underlying125,
 a32:=Tryz.isAgg125,
 z32:=Tryz.sizeOf125,
 v32:=Tryz.zeroValue125,
 t35:=Tryz.underlying188,
 a35:=Tryz.isAgg188,
 z35:=Tryz.sizeOf188,
 v35:=Tryz.zeroValue188,
 t36:=Tryz.underlying189,
 a36:=Tryz.isAgg189,
 z36:=Tryz.sizeOf189,
 v36:=Tryz.zeroValue189,
 t41:=Tryz.underlying131,
 a41:=Tryz.isAgg131,
 z41:=Tryz.sizeOf131,
 v41:=Tryz.zeroValue131,
 t44:=Tryz.underlying74,
 a44:=Tryz.isAgg74,
 z44:=Tryz.sizeOf74,
 v44:=Tryz.zeroValue74,
 t46:=Tryz.underlying56,
 a46:=Tryz.isAgg56,
 z46:=Tryz.sizeOf56,
 v46:=Tryz.zeroValue56,
 t53:=Tryz.underlying218,
 a53:=Tryz.isAgg218,
 z53:=Tryz.sizeOf218,
 v53:=Tryz.zeroValue218,
 t57:=Tryz.underlying221,
 a57:=Tryz.isAgg221,
 z57:=Tryz.sizeOf221,
 v57:=Tryz.zeroValue221,
 t63:=Tryz.underlying233,
 a63:=Tryz.isAgg233,
 z63:=Tryz.sizeOf233,
 v63:=Tryz.zeroValue233,
 t64:=Tryz.underlying234,
 a64:=Tryz.isAgg234,
 z64:=Tryz.sizeOf234,
 v64:=Tryz.zeroValue234}
end Go.Proofs.YtbpodmallknhfaaGreat
namespace Go.Proofs.YtbpodmallknhfaaGreat
open Go.RowKit Go.Maps Go.Sort Go.Shelf
theorem zO(m:Nat):AnyZI.SortsIn Tryz.prog mO Fence.wide m:=
 ⟨fun eC off cap c W d a b=>callsIn_wide.2 (AnyM.slices_Sort_int nL eC off cap c W d a b),
  fun p cap W=>callsIn_wide.2 (AnyM.slices_Sort_int_none nL p cap W)⟩
theorem mo:∀(L:List (Option (List Nat)))(i:Nat),intKeys (DataW.map (fZ i L))=(Dk.eK i L).map fun x:Nat=>(x:Int)
 | [],_=>rfl
 |none::r,i=>by
  have:=mo r (i+1);simpa[fZ,Dk.eK]using this
 |some b::r,i=>by
  have:=mo r (i+1);simp only[fZ,Dk.eK,List.map_cons];rw[<-this];rfl
theorem eV:∀(ws:List (Option (List Nat)))(i:Nat),(Dk.eK i ws).Pairwise (·< ·)/\∀x∈Dk.eK i ws,i<=x/\x<i+ws.length
 | [],_=>⟨List.Pairwise.nil,fun x a=>by cases a⟩
 |none::r,i=>by
  obtain⟨d,c⟩:=eV r (i+1);exact⟨d,fun x a=>by have:=c x a;simp only[G2];omega⟩
 |some b::r,i=>by
  obtain⟨d,c⟩:=eV r (i+1);refine⟨List.Pairwise.cons (fun y e=>by have:=c y e;omega) d,fun x a=>?_⟩;rcases List.mem_cons.1 a with rfl|a
  ·simp only[G2];omega
  ·have:=c x a;simp only[G2];omega
theorem mN{d:List Int}{L:List (Option (List Nat))}(h:d.Perm (intKeys (dL L))):d.mergeSort (fun x y=>decide (x<=y))=(Dk.eK 0 L).map fun x:Nat=>(x:Int):=by
 rw[show dL L=DataW.map (fZ 0 L)from rfl,mo]at h;have f:(d.mergeSort fun x y=>decide (x<=y)).Pairwise (fun x y=>x<=y):=by
  have:=List.pairwise_mergeSort (le:=fun x y:Int=>decide (x<=y)) (by intro a b c f e;simp at*;omega) (by intro a b;simp;omega) d;exact this.imp (by intro a b h;simpa using h)
 have e:((Dk.eK 0 L).map fun x:Nat=>(x:Int)).Pairwise (fun x y=>x<=y):=
  List.pairwise_map.2 ((eV L 0).1.imp fun{a b}h=>by omega)
 exact List.Perm.eq_of_pairwise (fun _ _ _ _ f e=>Int.le_antisymm f e) f e ((List.mergeSort_perm _ _).trans h)
end Go.Proofs.YtbpodmallknhfaaGreat
namespace Go.Proofs.YtbpodmallknhfaaGreat
open Go.RowKit
def Ch(B c d i:Nat)(a b:List Nat)(p:Nat)(k:Nat)(x:Value)(_:World):Prop:=
 match k with
 |0=>x=.pointer (some ⟨B,0,none⟩)
 |1=>x=.pointer (some ⟨B,0,none⟩)
 |2=>x=.pointer (some ⟨B,2,none⟩)
 |3=>x=.map (some c)
 |4=>x=.int .i64 (i:Int)
 |5=>x=.pointer (some ⟨B,0,none⟩)
 |6=>x=.pointer (some ⟨B,0,none⟩)
 |7=>x=.pointer (some ⟨B,2,none⟩)
 |8=>x=.map (some c)
 |9=>x=.int .i64 (i:Int)
 |10=>x=av a
 |11=>x=.pointer (some ⟨B,0,none⟩)
 |12=>x=.pointer (some ⟨B,0,none⟩)
 |13=>x=.pointer (some ⟨B,3,none⟩)
 |14=>x=.map (some d)
 |15=>x=.int .i64 (i:Int)
 |16=>x=av b
 |17=>x=.int .u8 (p:Int)
 |18=>x=av (Dk.pick p a b)
 |_=>True
end Go.Proofs.YtbpodmallknhfaaGreat
namespace Go.Proofs.YtbpodmallknhfaaGreat
open Go.RowKit Go.Maps Go.Sort Go.Shelf
open Classical in
noncomputable def xZ(v:Value):Option (DataW (List Nat)×List MemPlace):=
 if h:∃i:Nat,i<64/\v=.int .i64 (i:Int)then some (.held [h.choose],[])else none
theorem rD{i:Nat}(h:i<64):xZ (.int .i64 (i:Int))=some (.held [i],[]):=by
 have a:∃j:Nat,j<64/\Value.int .i64 (i:Int)=.int .i64 (j:Int):=⟨i,h,rfl⟩
 have b:a.choose=i:=by
  exact(Int.ofNat_inj.1 (Value.int.inj a.choose_spec.2).2).symm
 unfold xZ;rw[dif_pos a,b]
theorem tl{v:Value}{y:DataW (List Nat)×List MemPlace}(h:xZ v=some y):∃i:Nat,i<64/\v=.int .i64 (i:Int)/\y=(.held [i],[]):=by
 unfold xZ at h;split at h
 ·next h1=>
  cases h;exact⟨_,h1.choose_spec.1,h1.choose_spec.2,rfl⟩
 ·cases h
def lZ(H:List (Option Nat)):List (Option (List Nat)):=H.map (Option.map fun i=>[i])
theorem eG(H:List (Option Nat)):(lZ H).length=H.length:=Hb ..
theorem wE(H:List (Option Nat))(k:Nat)(x:Option Nat):lZ (H.set k x)=(lZ H).set k (x.map fun i=>[i]):=by unfold lZ;rw[List.map_set]
theorem qp(H:List (Option Nat)):(lZ H).countP Option.isSome=H.countP Option.isSome:=by
 unfold lZ;rw[List.countP_map];congr 1
 funext x
 cases x<;>rfl
def hz(H:List (Option Nat))(z:Int):Option Nat:=if 0<=z then H.getD z.toNat none else none
theorem vB(H:List (Option Nat))(z:Int):gz (lZ H) z=(hz H z).map fun i=>[i]:=by
 unfold gz hz lZ;split
 ·rw[GG,Je,GG];cases H[z.toNat]?<;>rfl
 ·rfl
theorem kU(H:List (Option Nat))(i:Nat):hz H (i:Int)=H.getD i none:=by simp[hz]
structure dm(w:World)(m:Nat)(H:List (Option Nat)):Prop where
 own:w.ownsMap Tryz.prog 3 xZ m ((lZ H).countP Option.isSome) (dL (lZ H))
 len:H.length<=65536
theorem dm.of{w:World}{m n:Nat}{H:List (Option Nat)}(h:w.ownsMap Tryz.prog 3 xZ m n (dL (lZ H)))(a:H.length<=65536):dm w m H:=
 ⟨fs (lZ H)▸kD h,a⟩
theorem dm.lt{w:World}{m:Nat}{H:List (Option Nat)}(h:dm w m H):m<w.heap.size:=h.own.lt
theorem dm.aj{w w':World}{m:Nat}{H:List (Option Nat)}{S:Nat->Prop}(h:dm w m H)(a:Touch S w w')(hs:¬S m):dm w' m H:=by
 obtain⟨es,clock,c,F,b,d⟩:=h.own;exact⟨⟨es,clock,a.row c hs,F,b,d⟩,h.len⟩
theorem dm.below{w w':World}{m:Nat}{H:List (Option Nat)}(h:dm w m H)(a:Below w.heap.size w w'):dm w' m H:=h.aj (.ax (S:=fun _=>False) a) id
theorem Cq(w:World){n:Nat}(a:n<=65536):dm (w.alloc (.map #[] 0)) w.heap.size (List.replicate n none):=
 dm.of (by
  have e:lZ (List.replicate n none)=List.replicate n none:=by unfold lZ;rw[List.map_replicate];rfl
  rw[e,mn];exact World.ownsMap_made w _ _ _) (by simpa using a)
theorem se(w:World):(zeroValue 3).run Tryz.prog w=.ok (.int .i64 0) w:=by kernel_rfl
theorem dm.look_ok{w:World}{m:Nat}{H:List (Option Nat)}(h:dm w m H){a:Int}(n: -9223372036854775808<=a)(l:a<=9223372036854775807):
 (Instr.lookup 93 (.map (some m)) (.int .i64 a) true).run Tryz.prog w=.ok (.tuple #[.int .i64 (((hz H a).getD 0:Nat):Int),.bool (hz H a).isSome]) w:=by
 obtain⟨v,o,d,j⟩:=h.own.look_ok lJ Tryz.underlying93 (se w) (rD (i:=0) (by decide)) (gA n l);rw[fP,vB]at d;rw[fI,vB]at j;have k:v=.int .i64 (((hz H a).getD 0:Nat):Int):=by
  obtain⟨b,_,rfl,e⟩:=tl j;have f:=Ho Prod.fst e;cases hg:hz H a with
  |none=>
   rw[hg]at f;have g:(DataW.held [0]:DataW (List Nat))=.held [b]:=f;cases g;rfl
  |some c=>
   rw[hg]at f;have g:(DataW.held [c]:DataW (List Nat))=.held [b]:=f;cases g;rfl
 subst k;rw[d];cases hz H a<;>rfl
theorem dm.small{w:World}{m:Nat}{H:List (Option Nat)}(h:dm w m H){a:Int}(k: -9223372036854775808<=a)(j:a<=9223372036854775807){i:Nat}(f:hz H a=some i):i<64:=by
 obtain⟨v,n,d,c⟩:=h.own.look_ok lJ Tryz.underlying93 (se w) (rD (i:=0) (by decide)) (gA k j);rw[fI,vB,f]at c;obtain⟨b,g,rfl,e⟩:=tl c;have l:(DataW.held [i]:DataW (List Nat))=.held [b]:=Ho Prod.fst e;cases l;exact g
theorem dm.put{w:World}{m:Nat}{H:List (Option Nat)}(h:dm w m H){k:Nat}(d:k<H.length){i:Nat}(e:i<64):
 ∃w',(Instr.mapUpdate 93 (.map (some m)) (.int .i64 (k:Int)) (.int .i64 (i:Int))).run Tryz.prog w=.ok () w'/\dm w' m (H.set k (some i))/\Touch (·=m) w w':=by
 have hl:=h.len;have f:=count_le (lZ H);rw[eG]at f;obtain⟨w',b,c,g⟩:=h.own.update lJ Tryz.underlying93 (by unfold maxLen;omega) (gA (a:=(k:Int)) (by omega) (by omega)) (rD e);rw[ti (by rw[eG];exact hl) (by rw[eG];exact d)]at c;exact⟨w',b,.of (by rw[wE];exact c) (by rw[G4];exact hl),.gW g rfl⟩
theorem vO{D:DataW (List Nat)}{P:Lit->Prop}(h:CanonK P D)(k:Lit):CanonK P (D.del k):=by
 obtain⟨es,rfl,b,a⟩:=h;rw[DataW.del_eq];exact⟨_,rfl,b.sublist List.filter_sublist,fun p hp=>a p (List.mem_filter.1 hp).1⟩
theorem AN{L:List (Option (List Nat))}(d:L.length<=65536){i:Nat}(b:i<L.length):(dL L).del (.int .i64 (i:Int))=dL (L.set i none):=by
 refine oC (vO (mV d) _) (fun z=>?_) (fun z f c a=>?_)
 ·rw[rH b];by_cases h:z=i
  ·subst h;rw[GU rfl,has_del_same];rfl
  ·rw[GQ h,has_del_other (by intro e;cases e;exact h rfl),fP]
 ·rw[rH b]at a;by_cases h:z=i
  ·rw[GU h]at a;cases a
  ·rw[GQ h]at a;rw[atKey_del_other (by intro e;cases e;exact h rfl),fI,a]
theorem dm.drop{w:World}{m:Nat}{H:List (Option Nat)}(h:dm w m H){k:Nat}(d:k<H.length):
 ∃w',(∀ty:TypeId,(Builtin.delete_ #[93,3] ty #[.map (some m),.int .i64 (k:Int)]).run Tryz.prog w=.ok (.tuple #[]) w')/\dm w' m (H.set k none)/\Touch (·=m) w w':=by
 have hl:=h.len;obtain⟨w',b,c,e⟩:=h.own.drop lJ Tryz.underlying93 (gA (a:=(k:Int)) (by omega) (by omega)) 3;rw[AN (by rw[eG];exact hl) (by rw[eG];exact d)]at c;exact⟨w',fun ty=>b,.of (by rw[wE];exact c) (by rw[G4];exact hl),.gW e.grown rfl⟩
theorem dm.jj{w:World}{m:Nat}{H:List (Option Nat)}(h:dm w m H)(ty:TypeId):(Builtin.len_ #[93] ty #[.map (some m)]).run Tryz.prog w=.ok (.int .i64 (H.countP Option.isSome:Nat)) w:=by
 rw[<-qp,<-fs];exact h.own.len Tryz.underlying93 ty
def keysP_ren:Go.Shelf.Ren:=⟨fun|7=>40|10=>65|n=>n,fun|23=>93|26=>3|3=>3|28=>91|0=>0|27=>90|33=>130|4=>4|n=>n,fun n=>n⟩
theorem oJ:Go.Proofs.SlLaysZI.n7 Tryz.prog keysP_ren:={
 mixed:=by kernel_rfl,
 f7:=⟨Tryz.f40.name,by decide,Tryz.func40.trans (Ho some (by kernel_rfl))⟩,
 f10:=⟨Tryz.f65.name,by decide,Tryz.func65.trans (Ho some (by kernel_rfl))⟩,
 t0:=Tryz.underlying0,
 a0:=Tryz.isAgg0,
 z0:=Tryz.sizeOf0,
 v0:=Tryz.zeroValue0,
 t4:=Tryz.underlying4,
 a4:=Tryz.isAgg4,
 z4:=Tryz.sizeOf4,
 v4:=Tryz.zeroValue4,
 t23:=Tryz.underlying93,
 a23:=Tryz.isAgg93,
 z23:=Tryz.sizeOf93,
 v23:=Tryz.zeroValue93,
 t26:=Tryz.underlying3,
 a26:=Tryz.isAgg3,
 z26:=Tryz.sizeOf3,
 v26:=Tryz.zeroValue3,
 t27:=Tryz.underlying90,
 a27:=Tryz.isAgg90,
 z27:=Tryz.sizeOf90,
 v27:=Tryz.zeroValue90,
 t28:=Tryz.underlying91,
 a28:=Tryz.isAgg91,
 z28:=Tryz.sizeOf91,
 v28:=Tryz.zeroValue91,
 t33:=Tryz.underlying130,
 a33:=Tryz.isAgg130,
 z33:=Tryz.sizeOf130,
 v33:=Tryz.zeroValue130}
def bO(H:List (Option Nat)):List Nat:=Dk.eK 0 (lZ H)
theorem jk(H:List (Option Nat)):(bO H).Pairwise (·< ·)/\∀x∈bO H,x<H.length:=by
 obtain⟨c,b⟩:=eV (lZ H) 0;refine⟨c,fun x a=>?_⟩;have:=(b x a).2;rw[eG]at this;omega
theorem vt(m:Nat)(w:World):Calls Tryz.prog 40 #[.map (some m)] w fun e w'=>
 e=.returned (.func (.func 65) #[] #[.pointer (some ⟨w.heap.size,0,none⟩)])/\w'=w.alloc (.cells #[.map (some m)] 93):=
 (callsIn_wide (n:=5)).1 (AnyZI.keys_in oJ Fence.wide 5 trivial rfl (some m) w)
theorem qX{m:Nat}{H:List (Option Nat)}{w:World}(h:dm w m H):Calls Tryz.prog 39 #[.func (.func 65) #[] #[.pointer (some ⟨w.heap.size,0,none⟩)]] (w.alloc (.cells #[.map (some m)] 93)) fun e w'=>
 ∃v,e=.returned v/\Ints.Own w.heap.size w' v ((bO H).map fun x:Nat=>(x:Int))/\Below w.heap.size w w':=by
 have k:=h.lt;have b:SeqGives Fence.wide 2 Tryz.prog 65 #[.pointer (some ⟨w.heap.size,0,none⟩)] encZ (fun d=>d.Perm (intKeys (dL (lZ H)))) (Maps.size (dL (lZ H))) (w.alloc (.cells #[.map (some m)] 93)):=
  AnyZI.keys_gives (ρ:=keysP_ren) {oJ with} Fence.wide _ trivial rfl (by omega) w.heap.size m _ (dL (lZ H)) _ (by simp) (by simp) (h.own.alloc _)
 have p:=count_le (lZ H);have hl:(lZ H).length<=65536:=by rw[eG];exact h.len
 have o:=AnyZI.sorted_in qY Fence.wide 5 trivial trivial trivial trivial rfl (by omega) (zO _) (enters_of Tryz.func64 (by kernel_rfl) rfl) 65 #[.pointer (some ⟨w.heap.size,0,none⟩)] trivial (enters_of Tryz.func65 (by kernel_rfl) rfl) _ _ (by rw[fs];unfold maxLen;omega) (by rw[fs];omega) _ b;refine(callsIn_wide (n:=5)).1 (o.mono ?_);rintro e w'⟨v,d,rfl,g,c,_,l⟩;have f:Below w.heap.size w (w.alloc (.cells #[.map (some m)] 93)):=(GF _ w).alloc (GH _) _;have a:=ownsRow_base_a c (show w.heap.size<=_ by simp);rw[mN g]at a;have hlen:d.length=((Dk.eK 0 (lZ H)).map fun x:Nat=>(x:Int)).length:=by rw[<-mN g];exact(List.mergeSort_perm _ _).length_eq.symm
 rw[hlen]at a;refine⟨v,rfl,⟨a,fun x j=>?_,?_⟩,f.trans (l.mono (by simp))⟩
 ·obtain⟨y,i,rfl⟩:=List.mem_map.1 j;have:=(eV (lZ H) 0).2 y i;exact xT y (by omega)
 ·show((Dk.eK 0 (lZ H)).map _).length<=_;rw[<-hlen,g.length_eq];have:(intKeys (dL (lZ H))).length=(fZ 0 (lZ H)).length:=by simp[intKeys,dL]
  rw[this,iC];omega
end Go.Proofs.YtbpodmallknhfaaGreat
