/- Parts of a proof. Conditions: as each row says. -/
import Derived.Test.YtbpodmallknhfaaGreatCr03
import Derived.Test.YtbpodmallknhfaaGreatCr09
import Derived.Shelf.SlLaysZI
import Derived.Shelf.SlLaysM
import Derived.Test.YtbpodmallknhfaaGreatProg
import Derived.Test.YtbpodmallknhfaaGreatChecked
import Derived.KernelRfl
import Derived.Shelf.SlIterI.Nil
import Derived.Shelf.SortM.Plain
import Derived.Shelf.SortM.SortNone
import Derived.Laws.CopyRow
namespace Go.Proofs.YtbpodmallknhfaaGreat
open Go.Shelf
def keysI_ren:Go.Shelf.Ren:=⟨fun|7=>88|10=>121|n=>n,fun|23=>105|26=>3|3=>127|28=>91|0=>0|27=>90|33=>130|4=>4|n=>n,fun n=>n⟩
theorem pA:Go.Proofs.SlLaysZI.n7 Tryz.prog keysI_ren:={
 mixed:=by kernel_rfl,
 f7:=⟨Tryz.f88.name,by decide,Tryz.func88.trans (congrArg some (by kernel_rfl))⟩,
 f10:=⟨Tryz.f121.name,by decide,Tryz.func121.trans (congrArg some (by kernel_rfl))⟩,
 t0:=Tryz.underlying0,
 a0:=Tryz.isAgg0,
 z0:=Tryz.sizeOf0,
 v0:=Tryz.zeroValue0,
 t4:=Tryz.underlying4,
 a4:=Tryz.isAgg4,
 z4:=Tryz.sizeOf4,
 v4:=Tryz.zeroValue4,
 t23:=Tryz.underlying105,
 a23:=Tryz.isAgg105,
 z23:=Tryz.sizeOf105,
 v23:=Tryz.zeroValue105,
 t26:=Tryz.underlying3,
 a26:=Tryz.isAgg3,
 z26:=Tryz.sizeOf3,
 v26:=Tryz.zeroValue3,
 t27:=Tryz.underlying90,
 a27:=Tryz.isAgg90,
 z27:=Tryz.sizeOf90,
 v27:=Tryz.zeroValue90,
 t28:=Tryz.underlying91,
 a28:=Tryz.isAgg91,
 z28:=Tryz.sizeOf91,
 v28:=Tryz.zeroValue91,
 t33:=Tryz.underlying130,
 a33:=Tryz.isAgg130,
 z33:=Tryz.sizeOf130,
 v33:=Tryz.zeroValue130}
def nz:Go.Shelf.Ren:=⟨fun|6=>39|8=>63|9=>64|11=>94|13=>96|12=>95|23=>139|24=>140|14=>130|15=>131|16=>132|17=>133|18=>134|19=>135|20=>136|21=>137|22=>138|25=>167|26=>168|27=>169|28=>170|29=>171|30=>172|31=>184|n=>n,fun|26=>3|28=>91|24=>34|0=>0|3=>3|37=>125|48=>74|50=>56|4=>4|40=>189|39=>188|45=>131|5=>5|9=>9|51=>218|55=>221|57=>233|58=>234|33=>130|n=>n,fun n=>n⟩
theorem se:Go.Proofs.SlLaysZI.n6 Tryz.prog nz:={
 mixed:=by kernel_rfl,
 f6:=⟨Tryz.f39.name,by decide,Tryz.func39.trans (congrArg some (by kernel_rfl))⟩,
 f8:=⟨Tryz.f63.name,by decide,Tryz.func63.trans (congrArg some (by kernel_rfl))⟩,
 f11:=⟨Tryz.f94.name,by decide,Tryz.func94.trans (congrArg some (by kernel_rfl))⟩,
 t0:=Tryz.underlying0,
 a0:=Tryz.isAgg0,
 z0:=Tryz.sizeOf0,
 v0:=Tryz.zeroValue0,
 t24:=Tryz.underlying34,
 a24:=Tryz.isAgg34,
 z24:=Tryz.sizeOf34,
 v24:=Tryz.zeroValue34,
 t26:=Tryz.underlying3,
 a26:=Tryz.isAgg3,
 z26:=Tryz.sizeOf3,
 v26:=Tryz.zeroValue3,
 t28:=Tryz.underlying91,
 a28:=Tryz.isAgg91,
 z28:=Tryz.sizeOf91,
 v28:=Tryz.zeroValue91,
 i26:=by kernel_rfl}
def yx:Go.Shelf.Ren:=⟨fun|5=>64|8=>96|7=>95|19=>139|20=>140|10=>130|11=>131|12=>132|13=>133|14=>134|15=>135|16=>136|17=>137|18=>138|30=>167|31=>168|32=>169|33=>170|34=>171|35=>172|40=>184|n=>n,fun|23=>34|25=>3|3=>3|32=>125|22=>34|0=>0|44=>74|46=>56|4=>4|36=>189|35=>188|41=>131|5=>5|9=>9|53=>218|57=>221|63=>233|64=>234|n=>n,fun n=>n⟩
theorem oD:Go.Proofs.SlLaysM.n5 Tryz.prog yx:={
 mixed:=by kernel_rfl,
 f5:=⟨Tryz.f64.name,by decide,Tryz.func64.trans (congrArg some (by kernel_rfl))⟩,
 f7:=⟨Tryz.f95.name,by decide,Tryz.func95.trans (congrArg some (by kernel_rfl))⟩,
 f8:=Tryz.func96.trans (congrArg some (by kernel_rfl)),
 f10:=⟨Tryz.f130.name,by decide,Tryz.func130.trans (congrArg some (by kernel_rfl))⟩,
 f11:=⟨Tryz.f131.name,by decide,Tryz.func131.trans (congrArg some (by kernel_rfl))⟩,
 f12:=⟨Tryz.f132.name,by decide,Tryz.func132.trans (congrArg some (by kernel_rfl))⟩,
 f13:=⟨Tryz.f133.name,by decide,Tryz.func133.trans (congrArg some (by kernel_rfl))⟩,
 f14:=⟨Tryz.f134.name,by decide,Tryz.func134.trans (congrArg some (by kernel_rfl))⟩,
 f15:=⟨Tryz.f135.name,by decide,Tryz.func135.trans (congrArg some (by kernel_rfl))⟩,
 f16:=⟨Tryz.f136.name,by decide,Tryz.func136.trans (congrArg some (by kernel_rfl))⟩,
 f17:=⟨Tryz.f137.name,by decide,Tryz.func137.trans (congrArg some (by kernel_rfl))⟩,
 f18:=⟨Tryz.f138.name,by decide,Tryz.func138.trans (congrArg some (by kernel_rfl))⟩,
 f19:=Tryz.func139.trans (congrArg some (by kernel_rfl)),
 f20:=Tryz.func140.trans (congrArg some (by kernel_rfl)),
 f30:=⟨Tryz.f167.name,by decide,Tryz.func167.trans (congrArg some (by kernel_rfl))⟩,
 f31:=Tryz.func168.trans (congrArg some (by kernel_rfl)),
 f32:=Tryz.func169.trans (congrArg some (by kernel_rfl)),
 f33:=⟨Tryz.f170.name,by decide,Tryz.func170.trans (congrArg some (by kernel_rfl))⟩,
 f34:=⟨Tryz.f171.name,by decide,Tryz.func171.trans (congrArg some (by kernel_rfl))⟩,
 f35:=⟨Tryz.f172.name,by decide,Tryz.func172.trans (congrArg some (by kernel_rfl))⟩,
 f40:=⟨Tryz.f184.name,by decide,Tryz.func184.trans (congrArg some (by kernel_rfl))⟩,
 t0:=Tryz.underlying0,
 a0:=Tryz.isAgg0,
 z0:=Tryz.sizeOf0,
 v0:=Tryz.zeroValue0,
 t3:=Tryz.underlying3,
 a3:=Tryz.isAgg3,
 z3:=Tryz.sizeOf3,
 v3:=Tryz.zeroValue3,
 t4:=Tryz.underlying4,
 a4:=Tryz.isAgg4,
 z4:=Tryz.sizeOf4,
 v4:=Tryz.zeroValue4,
 t5:=Tryz.underlying5,
 a5:=Tryz.isAgg5,
 z5:=Tryz.sizeOf5,
 v5:=Tryz.zeroValue5,
 t9:=Tryz.underlying9,
 a9:=Tryz.isAgg9,
 z9:=Tryz.sizeOf9,
 v9:=Tryz.zeroValue9,
 t22:=Tryz.underlying34,
 a22:=Tryz.isAgg34,
 z22:=Tryz.sizeOf34,
 v22:=Tryz.zeroValue34,
 t23:=Tryz.underlying34,
 a23:=Tryz.isAgg34,
 z23:=Tryz.sizeOf34,
 v23:=Tryz.zeroValue34,
 t25:=Tryz.underlying3,
 a25:=Tryz.isAgg3,
 z25:=Tryz.sizeOf3,
 v25:=Tryz.zeroValue3,
 t32:=Tryz.underlying125,
 a32:=Tryz.isAgg125,
 z32:=Tryz.sizeOf125,
 v32:=Tryz.zeroValue125,
 t35:=Tryz.underlying188,
 a35:=Tryz.isAgg188,
 z35:=Tryz.sizeOf188,
 v35:=Tryz.zeroValue188,
 t36:=Tryz.underlying189,
 a36:=Tryz.isAgg189,
 z36:=Tryz.sizeOf189,
 v36:=Tryz.zeroValue189,
 t41:=Tryz.underlying131,
 a41:=Tryz.isAgg131,
 z41:=Tryz.sizeOf131,
 v41:=Tryz.zeroValue131,
 t44:=Tryz.underlying74,
 a44:=Tryz.isAgg74,
 z44:=Tryz.sizeOf74,
 v44:=Tryz.zeroValue74,
 t46:=Tryz.underlying56,
 a46:=Tryz.isAgg56,
 z46:=Tryz.sizeOf56,
 v46:=Tryz.zeroValue56,
 t53:=Tryz.underlying218,
 a53:=Tryz.isAgg218,
 z53:=Tryz.sizeOf218,
 v53:=Tryz.zeroValue218,
 t57:=Tryz.underlying221,
 a57:=Tryz.isAgg221,
 z57:=Tryz.sizeOf221,
 v57:=Tryz.zeroValue221,
 t63:=Tryz.underlying233,
 a63:=Tryz.isAgg233,
 z63:=Tryz.sizeOf233,
 v63:=Tryz.zeroValue233,
 t64:=Tryz.underlying234,
 a64:=Tryz.isAgg234,
 z64:=Tryz.sizeOf234,
 v64:=Tryz.zeroValue234}
end Go.Proofs.YtbpodmallknhfaaGreat
namespace Go.Proofs.YtbpodmallknhfaaGreat
open Go.RowKit Go.Maps Go.Sort Go.Shelf
theorem AL(m:Nat):AnyZI.SortsIn Tryz.prog nz Fence.wide m:=
 ⟨fun fF off cap c W d a b=>callsIn_wide.2 (AnyM.slices_Sort_int oD fF off cap c W d a b),
  fun p cap W=>callsIn_wide.2 (AnyM.slices_Sort_int_none oD p cap W)⟩
theorem mS:∀(L:List (Option (List Nat)))(i:Nat),intKeys (DataW.map (gi i L))=(Dk.cO i L).map fun x:Nat=>(x:Int)
 | [],_=>rfl
 |none::r,i=>by
  have:=mS r (i+1);simpa[gi,Dk.cO]using this
 |some b::r,i=>by
  have:=mS r (i+1);simp only[gi,Dk.cO,List.map_cons];rw[<-this];rfl
theorem eU:∀(ws:List (Option (List Nat)))(i:Nat),(Dk.cO i ws).Pairwise (·< ·)/\∀x∈Dk.cO i ws,i<=x/\x<i+ws.length
 | [],_=>⟨List.Pairwise.nil,fun x a=>by cases a⟩
 |none::r,i=>by
  obtain⟨d,c⟩:=eU r (i+1);exact⟨d,fun x a=>by have:=c x a;simp only[List.length_cons];omega⟩
 |some b::r,i=>by
  obtain⟨d,c⟩:=eU r (i+1);refine⟨List.Pairwise.cons (fun y e=>by have:=c y e;omega) d,fun x a=>?_⟩;rcases List.mem_cons.1 a with rfl|a
  ·simp only[List.length_cons];omega
  ·have:=c x a;simp only[List.length_cons];omega
theorem ny{d:List Int}{L:List (Option (List Nat))}(h:d.Perm (intKeys (dO L))):d.mergeSort (fun x y=>decide (x<=y))=(Dk.cO 0 L).map fun x:Nat=>(x:Int):=by
 rw[show dO L=DataW.map (gi 0 L)from rfl,mS]at h;have f:(d.mergeSort fun x y=>decide (x<=y)).Pairwise (fun x y=>x<=y):=by
  have:=List.pairwise_mergeSort (le:=fun x y:Int=>decide (x<=y)) (by intro a b c f e;simp at*;omega) (by intro a b;simp;omega) d;exact this.imp (by intro a b h;simpa using h)
 have e:((Dk.cO 0 L).map fun x:Nat=>(x:Int)).Pairwise (fun x y=>x<=y):=
  List.pairwise_map.2 ((eU L 0).1.imp fun{a b}h=>by omega)
 exact List.Perm.eq_of_pairwise (fun _ _ _ _ f e=>Int.le_antisymm f e) f e ((List.mergeSort_perm _ _).trans h)
theorem zi(m:Nat)(w:World):Calls Tryz.prog 88 #[.map (some m)] w fun e w'=>
 e=.returned (.func (.func 121) #[] #[.pointer (some ⟨w.heap.size,0,none⟩)])/\w'=w.alloc (.cells #[.map (some m)] 105):=
 (callsIn_wide (n:=5)).1 (AnyZI.keys_in pA Fence.wide 5 trivial rfl (some m) w)
theorem tA{m:Nat}{L:List (Option (List Nat))}{w:World}(h:ch w m L):Calls Tryz.prog 39 #[.func (.func 121) #[] #[.pointer (some ⟨w.heap.size,0,none⟩)]] (w.alloc (.cells #[.map (some m)] 105)) fun e w'=>
 ∃v,e=.returned v/\Ints.Own w.heap.size w' v ((Dk.cO 0 L).map fun x:Nat=>(x:Int))/\Below w.heap.size w w':=by
 have k:=h.lt;have b:SeqGives Fence.wide 2 Tryz.prog 121 #[.pointer (some ⟨w.heap.size,0,none⟩)] encZ (fun d=>d.Perm (intKeys (dO L))) (Maps.size (dO L)) (w.alloc (.cells #[.map (some m)] 105)):=
  AnyZI.keys_gives (ρ:=keysI_ren) {pA with} Fence.wide _ trivial rfl (by omega) w.heap.size m _ (dO L) _ (by simp) (by simp) (h.own.alloc _)
 have p:=count_le L;have hl:=h.len;have o:=AnyZI.sorted_in se Fence.wide 5 trivial trivial trivial trivial rfl (by omega) (AL _) (enters_of Tryz.func64 (by kernel_rfl) rfl) 121 #[.pointer (some ⟨w.heap.size,0,none⟩)] trivial (enters_of Tryz.func121 (by kernel_rfl) rfl) _ _ (by rw[fj];unfold maxLen;omega) (by rw[fj];omega) _ b;refine(callsIn_wide (n:=5)).1 (o.mono ?_);rintro e w'⟨v,d,rfl,g,c,_,l⟩;have f:Below w.heap.size w (w.alloc (.cells #[.map (some m)] 105)):=(Below.refl _ w).alloc (Nat.le_refl _) _;have a:=ownsRow_base_a c (show w.heap.size<=_ by simp);rw[ny g]at a;have hlen:d.length=((Dk.cO 0 L).map fun x:Nat=>(x:Int)).length:=by rw[<-ny g];exact(List.mergeSort_perm _ _).length_eq.symm
 rw[hlen]at a;refine⟨v,rfl,⟨a,fun x j=>?_,?_⟩,f.trans (l.mono (by simp))⟩
 ·obtain⟨y,i,rfl⟩:=List.mem_map.1 j;have:=(eU L 0).2 y i;exact yV y (by omega)
 ·rw[<-hlen,g.length_eq];have:(intKeys (dO L)).length=(gi 0 L).length:=by simp[intKeys,dO]
  rw[this,iD];omega
theorem ym{B g a:Nat}{d:Dk.aq}{w:World}(h:bh w B g a d):
 Calls Tryz.prog 59 #[.pointer (some ⟨B,0,none⟩)] w fun e w'=>∃u,e=.returned u/\Ints.Own w.heap.size w' u ((Dk.list d).map fun x:Nat=>(x:Int))/\Below w.heap.size w w':=by
 have i:=mc h;have c3:=h.c3;have l:=Lib.hid h.waits;have b:=zi a w;have hs:=tA h.waits;clear h;go_enter Tryz.func59,Tryz.ntmps59;go_wp2_with (go_at_call 58;refine i.mono ?_;rintro e w'⟨rfl,rfl⟩)
 refine b.mono ?_;rintro e w1⟨rfl,rfl⟩;go_wp2_with fail
 refine hs.mono ?_;rintro e w1⟨v,rfl,f,c⟩;have j:=Lib.hid f;have k:=Lib.hid c;clear f c hs b;go_wp2_with fail
 go_ret;exact⟨v,rfl,j.out,k.out⟩
end Go.Proofs.YtbpodmallknhfaaGreat
namespace Go.Proofs.YtbpodmallknhfaaGreat
open Go.RowKit
theorem kW(a b:List Nat):af (a++b)=af a++af b:=by simp[af]
theorem nI(a:List Nat)(n:Nat):af (a.take n)=(af a).take n:=by simp[af,List.map_take]
theorem nJ(a:List Nat)(n:Nat):af (a.drop n)=(af a).drop n:=by simp[af,List.map_drop]
theorem wS(b:List Nat):∀v∈af b,v.oneCell'=true:=by
 intro x a;obtain⟨y,_,rfl⟩:=List.mem_map.1 a;rfl
theorem zl:(Tryz.prog.info? 5).map (·.size)=some 1:=by kernel_rfl
theorem rB{w:World}{g h o:Nat}{a b:List Nat}(l:ea w g a)(s:ea w h b)(p:a.length=128)(n:b.length=128)(t:o=0\/o=64)(c1 c2:Nat):
 ∃w',(∀ty,(Builtin.copy_ #[57,57] ty #[.slice (some ⟨g,o,none⟩) 64 c1,.slice (some ⟨h,o,none⟩) 64 c2]).run Tryz.prog w=.ok (.int .i64 64) w')/\
  ea w' g (a.take o++(b.drop o).take 64++a.drop (o+64))/\Touch (·=g) w w':=by
 have c:(af ((b.drop o).take 64)).length=64:=by rw[aF,List.length_take,List.length_drop];omega
 refine⟨_,fun ty=>?_,setRow_heap _ _ _ (af (a.take o++(b.drop o).take 64++a.drop (o+64))).toArray _ _ l,⟨rfl,rfl,rfl,by simp,fun i _ r=>setRow_other w g i _ r⟩⟩;have m:=run_copy_row Tryz.prog w 57 57 ty 5 g o 64 c1 ⟨h,o,none⟩ 64 c2 (af a).toArray _ (af ((b.drop o).take 64)) Tryz.underlying57 zl l (by rw[c];rfl) (fun j v f=>by
  have d:(⟨h,o,none⟩:Addr).add j=⟨h,o+j,none⟩:=by unfold Addr.add;split<;>simp_all
  have q:j<64:=by
   rcases Nat.lt_or_ge j 64 with k|k
   ·exact k
   ·rw[List.getElem?_eq_none (by omega)]at f;cases f
  rw[d,s.cell (by omega),<-f,nI,nJ,List.getElem?_take,if_pos q,List.getElem?_drop];simp[af,List.getD_eq_getElem?_getD,show o+j<b.length by omega]) (by rw[c,List.size_toArray,aF];omega) (wS _)
 rw[m,c];have e:(af a).toArray.toList.take o++af ((b.drop o).take 64)++(af a).toArray.toList.drop (o+64)=af (a.take o++(b.drop o).take 64++a.drop (o+64)):=by
  rw[kW,kW,nI a,nJ a]
 rw[e];rfl
def FN(b a o c:Nat)(i:Nat)(x:Value)(_:World):Prop:=
 match i with
 |0=>x=.slice (some ⟨b,o,none⟩) 64 c
 |1=>x=.slice (some ⟨a,o,none⟩) 64 c
 |_=>True
def Hi(W:World)(a:Nat)(r:List Nat)(D:Nat->Bool)(_:Nat->Value)(w:World):Prop:=
 Touch (·=a) W w/\(D 2=false->Touch (fun _=>False) W w)/\(D 2=true->ea w a r)
theorem vW(p:Nat)(a b:List Nat)(d:a.length=128)(c:b.length=128):
 (p%4=0/\Dk.pick p a b=a)\/(p%4=1/\Dk.pick p a b=b)\/(p%4=2/\Dk.pick p a b=a.take 0++(b.drop 0).take 64++a.drop (0+64))\/(p%4=3/\Dk.pick p a b=a.take 64++(b.drop 64).take 64++a.drop (64+64)):=by
 unfold Dk.pick;have h:p%4=0\/p%4=1\/p%4=2\/p%4=3:=by omega
 rcases h with h|h|h|h
 ·exact Or.inl ⟨h,by rw[if_pos h]⟩
 ·exact Or.inr (Or.inl ⟨h,by rw[if_neg (by omega),if_pos h]⟩)
 ·exact Or.inr (Or.inr (Or.inl ⟨h,by rw[if_neg (by omega),if_neg (by omega),if_pos h];simp⟩))
 ·refine Or.inr (Or.inr (Or.inr ⟨h,?_⟩));rw[if_neg (by omega),if_neg (by omega),if_neg (by omega),List.take_of_length_le (l:=b.drop 64) (by rw[List.length_drop];omega),List.drop_of_length_le (l:=a) (by omega),List.append_nil]
set_option maxHeartbeats 3200000 in
set_option maxRecDepth 20000 in
theorem tq(a b:List Nat)(p:Nat)(w:World)(Y:Dk.fI a)(X:Dk.fI b)(hp:p<256):
 Calls Tryz.prog 60 #[av a,av b,.int .u8 (p:Int)] w fun e w'=>e=.returned (av (Dk.pick p a b))/\Below w.heap.size w w':=by
 have G:=Y.1;have F:=X.1;have hz:=iN.1;have j:((p:Int)%4)=((p%4:Nat):Int):=by omega
 unfold av;obtain⟨W,L⟩:∃W,W=((w.alloc (.cells (af a).toArray 127)).alloc (.cells (af b).toArray 127)).alloc (.cells (af Dk.blank).toArray 127):=⟨_,rfl⟩
 have R:Below w.heap.size w W:=by rw[L];exact(((Below.refl _ _).alloc (Nat.le_refl _) _).alloc (by simp) _).alloc (by simp;omega) _
 have h3:ea W w.heap.size a:=by
  rw[L];show(World.alloc _ _).heap[_]?=_;rw[Below.heap_alloc _ _ _ (by simp;omega),Below.heap_alloc _ _ _ (by simp)];exact heap_alloc_last _ _
 have h4:ea W (w.heap.size+1) b:=by
  rw[L];show(World.alloc _ _).heap[_]?=_;rw[Below.heap_alloc _ _ _ (by simp)];have:=heap_alloc_last (w.alloc (.cells (af a).toArray 127)) (.cells (af b).toArray 127);rwa[show(w.alloc (.cells (af a).toArray 127)).heap.size=w.heap.size+1 by simp]at this
 have Z:ea W (w.heap.size+1+1) Dk.blank:=by
  rw[L];have:=heap_alloc_last ((w.alloc (.cells (af a).toArray 127)).alloc (.cells (af b).toArray 127)) (.cells (af Dk.blank).toArray 127);rwa[show((w.alloc (.cells (af a).toArray 127)).alloc (.cells (af b).toArray 127)).heap.size=w.heap.size+1+1 by simp]at this
 have s:=Lib.hid h3;have J:=Lib.hid h4;have u:=Lib.hid Z;have k:=Lib.hid R;have T:=Lib.hid L;have m:=Lib.hid G;have l:=Lib.hid F;obtain⟨g,t⟩:∃g,w.heap.size=g:=⟨_,rfl⟩
 have U:=vW p a b G F;clear L R h3 h4 Z G F Y X;rcases U with⟨x,O⟩|⟨x,O⟩|⟨x,O⟩|⟨x,O⟩<;>rw[x]at j<;>rw[O]<;>clear O x
 ·go_enter Tryz.func60,Tryz.ntmps60;go_upto_region 8 with(fail)
  rw[<-T.out];have q:=Lib.hid t;rw[t]at s J u k;have c:=Lib.hid k.out;clear t hz j;go_step;refine dI rfl (.tmp 3) rfl g rfl _ s.out m.out ?_;refine bB rfl (.tmp 6) (.tmp 22) rfl (g+1+1) rfl (a) rfl _ u.out (by decide) m.out ?_;intro w2 r2 t2;have H:=Lib.hid r2;have n:=Lib.hid (c.out.trans (t2.below (base:=g) (fun i z=>by rw[z];omega) (by have:=c.out.size;have:=q.out;omega)));clear r2 t2;go_wp2_with fail
  refine bodyPost_ret (v:=.agg (af (a)).toArray) ?_ rfl ⟨rfl,by rw[q.out];exact n.out⟩;exact results_cell_row rfl _ _ (g+1+1) 127 _ _ _ rfl H.out Tryz.underlying127 rfl (iS m.out)
 ·go_enter Tryz.func60,Tryz.ntmps60;go_upto_region 3 with(fail)
  rw[<-T.out];have q:=Lib.hid t;rw[t]at s J u k;have c:=Lib.hid k.out;clear t hz j;go_step;refine dI rfl (.tmp 4) rfl (g+1) rfl _ J.out l.out ?_;refine bB rfl (.tmp 6) (.tmp 11) rfl (g+1+1) rfl (b) rfl _ u.out (by decide) l.out ?_;intro w2 r2 t2;have H:=Lib.hid r2;have n:=Lib.hid (c.out.trans (t2.below (base:=g) (fun i z=>by rw[z];omega) (by have:=c.out.size;have:=q.out;omega)));clear r2 t2;go_wp2_with fail
  refine bodyPost_ret (v:=.agg (af (b)).toArray) ?_ rfl ⟨rfl,by rw[q.out];exact n.out⟩;exact results_cell_row rfl _ _ (g+1+1) 127 _ _ _ rfl H.out Tryz.underlying127 rfl (iS l.out)
 ·go_enter Tryz.func60,Tryz.ntmps60;go_upto_region 5 with(fail)
  rw[<-T.out];have q:=Lib.hid t;rw[t]at s J u k;have c:=Lib.hid k.out;clear t hz j;refine Ord.walk (FN g (g+1) 0 128) (Hi W g (a.take 0++(b.drop 0).take 64++a.drop (0+64))) (fun _ _=>True)
   (by kernel_rfl) (by kernel_rfl) ?frP2 ?hfrP2 (fun _ _ _ _ _ h=>h) ?hsP2 ?heP2 ?hendP2
  case hsP2=>exact fun _=>⟨(Touch.refl _ _).drew,fun _=>(Touch.refl _ _).drew,fun h=>by cases h⟩
  case hfrP2=>
   intro xs;simp only[Ord.fill,Act.put,List.setIfInBounds_toArray,List.set_cons_zero,List.set_cons_succ];rfl
  case heP2=>
   iterate 3 (refine Ord.aa (fun D xs w2 V hC hP hR A K B=>?_) ?_;rotate_left)
   rotate_left
   ·clear A;go_simp;exact B _ _ ⟨_,rfl,trivial,hR,rfl⟩
   ·clear A;go_simp;exact B _ _ ⟨_,rfl,trivial,hR,rfl⟩
   ·have N:=Ord.ab _ A 0 (by decide);simp only[FN]at N;have M:=Ord.ab _ A 1 (by decide);simp only[FN]at M;simp only[N,M]at B;clear A;have Q:=hR.2.1 V;obtain⟨w9,P,d,C⟩:=rB (w:=w2) (o:=0) (s.out.al Q id) (J.out.al Q id) m.out l.out (by decide) 128 128;go_simp;exact B _ _ ⟨_,rfl,trivial,⟨hR.1.trans C,fun h=>(by cases h),fun _=>d⟩,trivial⟩
   exact Ord.az
  case hendP2=>
   intro D xs w9 hR S;have d:=hR.2.2 (S 2 (by decide)).1;have u:=Lib.hid (u.out.al hR.1 (by omega));have c:=Lib.hid (c.out.trans (hR.1.below (base:=g) (fun i z=>by rw[z];exact Nat.le_refl _) (by have:=c.out.size;have:=q.out;omega)));have s:=Lib.hid d;have y:(a.take 0++(b.drop 0).take 64++a.drop (0+64)).length=128:=by simp only[List.length_append,List.length_take,List.length_drop,m.out,l.out];rfl
   have f:=Lib.hid y;clear d hR S y;generalize xs 0=z0;generalize xs 1=z1;generalize xs 2=z2;obtain⟨r,E⟩:∃r,a.take 0++(b.drop 0).take 64++a.drop (0+64)=r:=⟨_,rfl⟩
   rw[E]at f s;have I:=Lib.hid E;clear E;go_upto_region 8 with(fail)
   go_step;refine dI rfl (.tmp 3) rfl g rfl _ s.out f.out ?_;refine bB rfl (.tmp 6) (.tmp 22) rfl (g+1+1) rfl (r) rfl _ u.out (by decide) f.out ?_;intro w2 r2 t2;have H:=Lib.hid r2;have n:=Lib.hid (c.out.trans (t2.below (base:=g) (fun i z=>by rw[z];omega) (by have:=c.out.size;have:=q.out;omega)));clear r2 t2;go_wp2_with fail
   refine bodyPost_ret (v:=.agg (af (r)).toArray) ?_ rfl ⟨by rw[<-I.out],by rw[q.out];exact n.out⟩;exact results_cell_row rfl _ _ (g+1+1) 127 _ _ _ rfl H.out Tryz.underlying127 rfl (iS f.out)
 ·go_enter Tryz.func60,Tryz.ntmps60;go_upto_region 7 with(fail)
  rw[<-T.out];have q:=Lib.hid t;rw[t]at s J u k;have c:=Lib.hid k.out;clear t hz j;refine Ord.walk (FN g (g+1) 64 64) (Hi W g (a.take 64++(b.drop 64).take 64++a.drop (64+64))) (fun _ _=>True)
   (by kernel_rfl) (by kernel_rfl) ?frP3 ?hfrP3 (fun _ _ _ _ _ h=>h) ?hsP3 ?heP3 ?hendP3
  case hsP3=>exact fun _=>⟨(Touch.refl _ _).drew,fun _=>(Touch.refl _ _).drew,fun h=>by cases h⟩
  case hfrP3=>
   intro xs;simp only[Ord.fill,Act.put,List.setIfInBounds_toArray,List.set_cons_zero,List.set_cons_succ];rfl
  case heP3=>
   iterate 3 (refine Ord.aa (fun D xs w2 V hC hP hR A K B=>?_) ?_;rotate_left)
   rotate_left
   ·clear A;go_simp;exact B _ _ ⟨_,rfl,trivial,hR,rfl⟩
   ·clear A;go_simp;exact B _ _ ⟨_,rfl,trivial,hR,rfl⟩
   ·have N:=Ord.ab _ A 0 (by decide);simp only[FN]at N;have M:=Ord.ab _ A 1 (by decide);simp only[FN]at M;simp only[N,M]at B;clear A;have Q:=hR.2.1 V;obtain⟨w9,P,d,C⟩:=rB (w:=w2) (o:=64) (s.out.al Q id) (J.out.al Q id) m.out l.out (by decide) 64 64;go_simp;exact B _ _ ⟨_,rfl,trivial,⟨hR.1.trans C,fun h=>(by cases h),fun _=>d⟩,trivial⟩
   exact Ord.az
  case hendP3=>
   intro D xs w9 hR S;have d:=hR.2.2 (S 2 (by decide)).1;have u:=Lib.hid (u.out.al hR.1 (by omega));have c:=Lib.hid (c.out.trans (hR.1.below (base:=g) (fun i z=>by rw[z];exact Nat.le_refl _) (by have:=c.out.size;have:=q.out;omega)));have s:=Lib.hid d;have y:(a.take 64++(b.drop 64).take 64++a.drop (64+64)).length=128:=by simp only[List.length_append,List.length_take,List.length_drop,m.out,l.out];rfl
   have f:=Lib.hid y;clear d hR S y;generalize xs 0=z0;generalize xs 1=z1;generalize xs 2=z2;obtain⟨r,E⟩:∃r,a.take 64++(b.drop 64).take 64++a.drop (64+64)=r:=⟨_,rfl⟩
   rw[E]at f s;have I:=Lib.hid E;clear E;go_upto_region 8 with(fail)
   go_step;refine dI rfl (.tmp 3) rfl g rfl _ s.out f.out ?_;refine bB rfl (.tmp 6) (.tmp 22) rfl (g+1+1) rfl (r) rfl _ u.out (by decide) f.out ?_;intro w2 r2 t2;have H:=Lib.hid r2;have n:=Lib.hid (c.out.trans (t2.below (base:=g) (fun i z=>by rw[z];omega) (by have:=c.out.size;have:=q.out;omega)));clear r2 t2;go_wp2_with fail
   refine bodyPost_ret (v:=.agg (af (r)).toArray) ?_ rfl ⟨by rw[<-I.out],by rw[q.out];exact n.out⟩;exact results_cell_row rfl _ _ (g+1+1) 127 _ _ _ rfl H.out Tryz.underlying127 rfl (iS f.out)
end Go.Proofs.YtbpodmallknhfaaGreat
namespace Go.Proofs.YtbpodmallknhfaaGreat.Dk
theorem gq:∀(ws:List (Option (List Nat)))(i:Nat),(cO i ws).length=ws.countP Option.isSome
 | [],_=>rfl
 |none::r,i=>by rw[cO,gq r];simp
 |some b::r,i=>by rw[cO,List.length_cons,gq r];simp
theorem mR:∀(ws:List (Option (List Nat)))(i j:Nat),j<(cO i ws).length->∃m b,(cO i ws).getD j 0=i+m/\m<ws.length/\ws.getD m none=some b/\(ws.take m).countP Option.isSome=j
 | [],_,_,h=>by simp[cO]at h
 |none::r,i,j,h=>by
  obtain⟨m,b,f,e,d,a⟩:=mR r (i+1) j h;refine⟨m+1,b,?_,by simp;omega,by simpa using d,by simpa using a⟩;show(cO (i+1) r).getD j 0=_;omega
 |some c::r,i,0,_=>⟨0,c,by simp[cO],by simp,by simp,by simp⟩
 |some c::r,i,j+1,h=>by
  obtain⟨m,b,f,e,d,a⟩:=mR r (i+1) j (by simpa[cO]using h);refine⟨m+1,b,?_,by simp;omega,by simpa using d,by simpa using a⟩;have:(cO i (some c::r)).getD (j+1) 0=(cO (i+1) r).getD j 0:=by simp[cO]
  omega
theorem pN{d:aq}{m n:Nat}(h:m<n)(hl:m<d.waits.length)(hs:(d.waits.getD m none).isSome=true):aN d m<(d.waits.take n).countP Option.isSome:=by
 have a:=Cg d m hl;rw[if_pos hs]at a;have b:(d.waits.take (m+1)).countP Option.isSome<=(d.waits.take n).countP Option.isSome:=by
  have e:d.waits.take (m+1)=(d.waits.take n).take (m+1):=by rw[List.take_take];congr 1;omega
  rw[e];exact(List.take_sublist _ _).countP_le
 unfold aN at*
 omega
theorem DM{d:aq}{m n:Nat}(c:m<d.waits.length)(b:n<d.waits.length)(s1:(d.waits.getD m none).isSome=true)(s2:(d.waits.getD n none).isSome=true)(h:aN d m=aN d n):m=n:=by
 rcases Nat.lt_trichotomy m n with a|he|a
 ·have:=pN a c s1;unfold aN at*;omega
 ·exact he
 ·have:=pN a b s2;unfold aN at*;omega
theorem zN{d:aq}{m:Nat}(a:m<d.waits.length)(s1:(d.waits.getD m none).isSome=true):aN d m<(list d).length:=by
 have:=pN a a s1;rw[List.take_length]at this;unfold list;rw[gq];exact this
def mq(d:aq)(a:List Nat)(k:Nat):List (Option (List Nat)):=
 (List.range (size d)).map fun i=>if(d.waits.getD i none).isSome=true/\aN d i<k then some ((ay d a).aP.getD i [])else(ez d).getD i none
theorem dq(d:aq)(a:List Nat)(k:Nat):(mq d a k).length=size d:=by simp[mq]
theorem gJ{d:aq}{a:List Nat}{k i:Nat}(b:i<size d):(mq d a k).getD i none=if(d.waits.getD i none).isSome=true/\aN d i<k then some ((ay d a).aP.getD i [])else(ez d).getD i none:=by
 rw[mq,List.getD_eq_getElem?_getD,List.getElem?_map,List.getElem?_range b];rfl
theorem zI{d:aq}(h:Ok d)(b:List Nat):mq d b 0=ez d:=by
 refine jf none (by rw[dq,cA h]) fun i a=>?_;rw[dq]at a;rw[gJ a,if_neg (by omega)]
theorem zK{d:aq}(h:Own d)(c:List Nat):mq d c (list d).length=ez (ay d c):=by
 have e:=j2 h.ok c;refine jf none (by rw[dq,cA e,dp h.ok]) fun i a=>?_;rw[dq]at a;rw[gJ a,dE e (by rw[dp h.ok];exact a)];show _=if d.seen.getD i false then _ else _
 cases hw:d.waits.getD i none with
 |none=>
  rw[if_neg (by rintro⟨h,_⟩;cases h),dE h.ok a,eL h.ok c a,hw]
 |some b=>
  rw[if_pos ⟨rfl,zN (by rw[h.ok.w];exact a) (by rw[hw];rfl)⟩,h.jR i b hw];rfl
theorem zJ{d:aq}(h:Own d)(a:List Nat){k i:Nat}{b:List Nat}(f:i<size d)(hw:d.waits.getD i none=some b)(m:aN d i=k):
 (mq d a k).set i (some (pick (a.getD k 0) (d.aP.getD i []) b))=mq d a (k+1):=by
 refine jf none (by rw[List.length_set,dq,dq]) fun j c=>?_;rw[List.length_set,dq]at c;by_cases e:i=j
 ·subst e;rw[aZ (by rw[dq];exact f),gJ f,if_pos ⟨by rw[hw];rfl,by omega⟩,eL h.ok a f,hw];dsimp only;rw[m]
 ·rw[getD_set_ne e,gJ c,gJ c];by_cases hs:(d.waits.getD j none).isSome=true
  ·have l:aN d j≠k:=fun g=>e (DM (by rw[h.ok.w];exact f) (by rw[h.ok.w];exact c) (by rw[hw];rfl) hs (by omega));by_cases g:aN d j<k
   ·rw[if_pos ⟨hs,g⟩,if_pos ⟨hs,by omega⟩]
   ·rw[if_neg (by rintro⟨_,h⟩;exact g h),if_neg (by rintro⟨_,h⟩;omega)]
  ·rw[if_neg (by rintro⟨h,_⟩;exact hs h),if_neg (by rintro⟨h,_⟩;exact hs h)]
theorem Bz{d:aq}(h:Own d)(e:List Nat){k:Nat}(f:k<(list d).length):
 ∃i b,(list d).getD k 0=i/\i<size d/\d.waits.getD i none=some b/\aN d i=k/\(mq d e k).getD i none=some (d.aP.getD i []):=by
 obtain⟨m,b,j,a,c,g⟩:=mR d.waits 0 k f;rw[h.ok.w]at a;refine⟨m,b,by unfold list;omega,a,c,g,?_⟩;rw[gJ a,if_neg (by unfold aN;omega),dE h.ok a,if_pos (h.jR m b c)]
end Go.Proofs.YtbpodmallknhfaaGreat.Dk
namespace Go.Proofs.YtbpodmallknhfaaGreat
open Go.RowKit
def Ch(B c d i:Nat)(a b:List Nat)(p:Nat)(k:Nat)(x:Value)(_:World):Prop:=
 match k with
 |0=>x=.pointer (some ⟨B,0,none⟩)
 |1=>x=.pointer (some ⟨B,0,none⟩)
 |2=>x=.pointer (some ⟨B,2,none⟩)
 |3=>x=.map (some c)
 |4=>x=.int .i64 (i:Int)
 |5=>x=.pointer (some ⟨B,0,none⟩)
 |6=>x=.pointer (some ⟨B,0,none⟩)
 |7=>x=.pointer (some ⟨B,2,none⟩)
 |8=>x=.map (some c)
 |9=>x=.int .i64 (i:Int)
 |10=>x=av a
 |11=>x=.pointer (some ⟨B,0,none⟩)
 |12=>x=.pointer (some ⟨B,0,none⟩)
 |13=>x=.pointer (some ⟨B,3,none⟩)
 |14=>x=.map (some d)
 |15=>x=.int .i64 (i:Int)
 |16=>x=av b
 |17=>x=.int .u8 (p:Int)
 |18=>x=av (Dk.pick p a b)
 |_=>True
def Ht(wr:World)(a:Nat)(L:List (Option (List Nat)))(D:Nat->Bool)(_:Nat->Value)(w:World):Prop:=
 Touch (·=a) wr w/\(D 19=false->Touch (fun _=>False) wr w)/\(D 19=true->ch w a L)
theorem zk{base:Nat}{w:World}{v:Value}{l:List Nat}(h:Ints.Own base w v (l.map fun x:Nat=>(x:Int))):
 ∃p cap,v=.slice p l.length cap/\(l.length<=cap/\cap<=9223372036854775807)/\(0<l.length->∃g,p=some ⟨g,0,none⟩/\base<=g/\∀i,i<l.length->w.cell? ⟨g,i,none⟩=some (.int .i64 (l.getD i 0:Nat))):=by
 have hl:(l.map fun x:Nat=>(x:Int)).length=l.length:=by simp
 rcases h.form with⟨rfl,e⟩|⟨g,cap,rfl,m,q,k,o⟩
 ·have:l=[]:=by simpa using e
  subst this;exact⟨none,0,rfl,by decide,fun h=>absurd h (by decide)⟩
 ·refine⟨some ⟨g,0,none⟩,cap,by rw[hl],⟨by omega,by unfold maxLen at k;omega⟩,fun h0=>⟨g,rfl,m,fun i f=>?_⟩⟩;obtain⟨n,d,c,_,_,hp⟩:=h.bz.form;obtain⟨b,off,a,j⟩:=hp (by omega);simp only[Value.slice.injEq]at c;rw[<-c.1]at a;simp only[Option.some.injEq,Addr.mk.injEq,and_true]at a;obtain⟨rfl,rfl⟩:=a;have:=j i (by omega);rw[Nat.zero_add]at this;rw[this];simp[List.getD_eq_getElem?_getD,f]
set_option maxHeartbeats 6400000 in
set_option maxRecDepth 20000 in
theorem zH{B m t:Nat}{d:Dk.aq}{w:World}(h:bh w B m t d)(v:Value)(o:List Nat)(hB:aV w v o)(hv:0<o.length->∀g,v.ownBlock=some g->¬DS B m t g):
 Calls Tryz.prog 31 #[.pointer (some ⟨B,0,none⟩),v] w fun e w'=>e=.returned (.int .i64 0)/\bh w' B m t (Dk.ay d o)/\Touch (DS B m t) w w':=by
 have hn:=mc h;have aC:=ym h;have bj:=hB.len;have a7:=Lib.hid hB;have HV:=Lib.hid hv;obtain⟨pp,bb,rfl,aU,-,-⟩:=hB.form;have HH:=Lib.hid h;have bd:=h.own.size;have bf:(Dk.list d).length<=65536:=by
  unfold Dk.list;rw[Dk.gq];have:=count_le d.waits;rw[h.own.ok.w]at this;omega
 clear h hB hv;go_enter Tryz.func31,Tryz.ntmps31;go_wp2_with (go_at_call 58;refine hn.mono ?_;rintro e w'⟨rfl,rfl⟩)
 refine aC.mono ?_;rintro e w1⟨u,rfl,hO,U⟩;obtain⟨qp,ba,rfl,aR,l⟩:=zk hO;have a6:=Lib.hid l;have a8:=Lib.hid U;have j:=Lib.hid (HH.out.below U);have ae:=Lib.hid (a7.out.below U);clear l hO U aC hn;generalize aF:(Dk.list d).length=n at*
 go_wp2_with fail
 go_loopw [13] (fun x wr=>∃k:Nat,k<=n/\x=.int .i64 k/\ch wr m (Dk.mq d o k)/\Touch (·=m) w1 wr) (fun x _=>n-(intOf x).toNat)
 case atStart=>exact⟨0,Nat.zero_le _,rfl,by rw[Dk.zI j.out.own.ok];exact j.out.aP,.refl _ _⟩
 case round=>
  obtain⟨k,hk,rfl,hM,hT⟩:=hrel;have HM:=Lib.hid hM;have HT:=Lib.hid hT;clear hM hT;have q:=Lib.hid (HT.out.row j.out.fF (fun e=>j.out.b1 e));have V:=Lib.hid (j.out.waits.al HT.out (fun e=>j.out.n12 e.symm));by_cases Q:k<n
  ·obtain⟨i,b,aG,hi,M,aK,an⟩:=Dk.Bz j.out.own o (k:=k) (by rw[aF];exact Q);obtain⟨g,rfl,hg,hc⟩:=a6.out (by omega);have l:=HT.out.cell (hc k Q) (fun e=>by have:=j.out.aP.lt;have:=HH.out.aP.lt;simp only at e;omega);rw[aG]at l;have ai:Dk.fI (d.aP.getD i []):=HM.out.sec (z:=(i:Int)) (by rw[mU];exact an);have aD:Dk.fI b:=V.out.sec (z:=(i:Int)) (by rw[mU];exact M);have aB:(gz (Dk.mq d o k) (i:Int)).getD Dk.blank=d.aP.getD i []:=by rw[mU,an];rfl
   have aA:(gz d.waits (i:Int)).getD Dk.blank=b:=by rw[mU,M];rfl
   have ar:=Lib.hid aB;have aM:=Lib.hid aA;have r:=Dk.zJ j.out.own o hi M aK;have aO:=Lib.hid (show i<(Dk.mq d o k).length by rw[Dk.dq];exact hi);have aj:o.getD k 0<256:=ae.out.getD k;obtain⟨a,ha⟩:∃a,d.aP.getD i []=a:=⟨_,rfl⟩
   rw[ha]at ai ar r;have X:=Lib.hid ai;have W:=Lib.hid aD;have av:=Lib.hid r;have Z:=Lib.hid (show i<=65536 by omega);obtain⟨p,hp⟩:∃p,o.getD k 0=p:=⟨_,rfl⟩
   rw[hp]at aj av;have aN:=Lib.hid aj;have Y:=Lib.hid Q;have bg:(k:Int)<(n:Int):=by omega
   clear aG aK an hc aB aA ai aD r ha aj M hi hg Q;by_cases aY:k<o.length
   ·have aW:wr.cell? ⟨0,0,none⟩=wr.cell? ⟨0,0,none⟩:=rfl;obtain⟨pg,off,rfl,P⟩:∃pg off,pp=some ⟨pg,off,none⟩/\wr.cell? ⟨pg,off+k,none⟩=some (.int .u8 (p:Int)):=by
     obtain⟨p',bc,af,_,_,aS⟩:=ae.out.form;simp only[Value.slice.injEq]at af;obtain⟨b',ax,aJ,aZ⟩:=aS (by omega);refine⟨b',ax,by rw[af.1,aJ],?_⟩;have h1:=aZ k aY;rw[hp]at h1;refine HT.out.cell h1 fun e=>?_;exact HV.out (by omega) b' (by rw[af.1,aJ];rfl) (Or.inr (Or.inl e))
    clear aW hp;have aH:(k:Int)<(o.length:Int):=by omega
    go_upto_region 9 with(fail)
    clear l P;refine Ord.walk (Ch B m t i a b p) (Ht wr m (Dk.mq d o (k+1))) (fun _ _=>True)
     (by kernel_rfl) (by kernel_rfl) ?frC1 ?hfrC1 (fun _ _ _ _ _ h=>h) ?hsC1 ?heC1 ?hendC1
    case hsC1=>exact fun _=>⟨(Touch.refl _ _).drew,fun _=>(Touch.refl _ _).drew,fun h=>by cases h⟩
    case hfrC1=>
     intro xs;simp only[Ord.fill,Act.put,List.setIfInBounds_toArray,List.set_cons_zero,List.set_cons_succ];rfl
    case heC1=>
     iterate 20 (refine Ord.aa (fun D xs w2 hD hC hP hR c K f=>?_) ?_;rotate_left)
     rotate_left
     ·clear c;go_simp;exact f _ _ ⟨_,rfl,trivial,hR,rfl⟩
     ·have q0:=Ord.ab _ c 0 (by decide);simp only[Ch]at q0;simp only[q0]at f;clear c;go_simp;exact f _ _ ⟨_,rfl,trivial,hR,rfl⟩
     ·have q1:=Ord.ab _ c 1 (by decide);simp only[Ch]at q1;simp only[q1]at f;clear c;go_simp;exact f _ _ ⟨_,rfl,trivial,hR,rfl⟩
     ·have q2:=Ord.ab _ c 2 (by decide);simp only[Ch]at q2;simp only[q2]at f;clear c;have c0:=ah (v:=.map (some m)) (hR.1.row q.out (fun e=>j.out.b1 e)) 2 rfl;go_simp;exact f _ _ ⟨_,rfl,trivial,hR,rfl⟩
     ·clear c;go_simp;exact f _ _ ⟨_,rfl,trivial,hR,rfl⟩
     ·clear c;go_simp;exact f _ _ ⟨_,rfl,trivial,hR,rfl⟩
     ·have q5:=Ord.ab _ c 5 (by decide);simp only[Ch]at q5;simp only[q5]at f;clear c;go_simp;exact f _ _ ⟨_,rfl,trivial,hR,rfl⟩
     ·have q6:=Ord.ab _ c 6 (by decide);simp only[Ch]at q6;simp only[q6]at f;clear c;go_simp;exact f _ _ ⟨_,rfl,trivial,hR,rfl⟩
     ·have q7:=Ord.ab _ c 7 (by decide);simp only[Ch]at q7;simp only[q7]at f;clear c;have c0:=ah (v:=.map (some m)) (hR.1.row q.out (fun e=>j.out.b1 e)) 2 rfl;go_simp;exact f _ _ ⟨_,rfl,trivial,hR,rfl⟩
     ·clear c;go_simp;exact f _ _ ⟨_,rfl,trivial,hR,rfl⟩
     ·have q8:=Ord.ab _ c 8 (by decide);simp only[Ch]at q8;have q9:=Ord.ab _ c 9 (by decide);simp only[Ch]at q9;simp only[q8,q9]at f;clear c;have hN:D 19=false:=by
       cases h:D 19
       ·rfl
       ·have ao:=Ord.aL hC 19 18 (by kernel_rfl) h;have:=Ord.aL hC 18 10 (by kernel_rfl) ao;rw[hD]at this;cases this
      have hl:=(HM.out.al (hR.2.1 hN) id).look (a:=(i:Int)) (by omega) (by have:=Z.out;omega);rw[ar.out]at hl;go_simp;exact f _ _ ⟨_,rfl,trivial,hR,rfl⟩
     ·clear c;go_simp;exact f _ _ ⟨_,rfl,trivial,hR,rfl⟩
     ·have I:=Ord.ab _ c 11 (by decide);simp only[Ch]at I;simp only[I]at f;clear c;go_simp;exact f _ _ ⟨_,rfl,trivial,hR,rfl⟩
     ·have H:=Ord.ab _ c 12 (by decide);simp only[Ch]at H;simp only[H]at f;clear c;go_simp;exact f _ _ ⟨_,rfl,trivial,hR,rfl⟩
     ·have G:=Ord.ab _ c 13 (by decide);simp only[Ch]at G;simp only[G]at f;clear c;have c0:=ah (v:=.map (some t)) (hR.1.row q.out (fun e=>j.out.b1 e)) 3 rfl;go_simp;exact f _ _ ⟨_,rfl,trivial,hR,rfl⟩
     ·clear c;go_simp;exact f _ _ ⟨_,rfl,trivial,hR,rfl⟩
     ·have F:=Ord.ab _ c 14 (by decide);simp only[Ch]at F;have E:=Ord.ab _ c 15 (by decide);simp only[Ch]at E;simp only[F,E]at f;clear c;have hl:=(V.out.al hR.1 (fun e=>j.out.n12 e.symm)).look (a:=(i:Int)) (by omega) (by have:=Z.out;omega);rw[aM.out]at hl;go_simp;exact f _ _ ⟨_,rfl,trivial,hR,rfl⟩
     ·clear c;go_simp;exact f _ _ ⟨_,rfl,trivial,hR,rfl⟩
     ·have J:=Ord.ab _ c 10 (by decide);simp only[Ch]at J;have C:=Ord.ab _ c 16 (by decide);simp only[Ch]at C;have A:=Ord.ab _ c 17 (by decide);simp only[Ch]at A;simp only[J,C,A]at f;clear c;go_simp;refine(tq a b p w2 X.out W.out aN.out).mono ?_;rintro e w3⟨rfl,s⟩;exact f _ _ ⟨_,rfl,trivial,⟨hR.1.trans (.aE s),fun h=>(hR.2.1 h).trans (.aE s),fun h=>(hR.2.2 h).below s⟩,rfl⟩
     ·have q3:=Ord.ab _ c 3 (by decide);simp only[Ch]at q3;have q4:=Ord.ab _ c 4 (by decide);simp only[Ch]at q4;have y:=Ord.ab _ c 18 (by decide);simp only[Ch]at y;simp only[q3,q4,y]at f;clear c;obtain⟨w9,ad,L,ag⟩:=(HM.out.al (hR.2.1 hD) id).put (i:=i) aO.out (Dk.oJ (p:=p) X.out W.out);rw[av.out]at L;go_simp;exact f _ _ ⟨undef,rfl,trivial,⟨hR.1.trans ag,fun h=>(by cases h),fun _=>L⟩,trivial⟩
     exact Ord.az
    case hendC1=>
     intro D xs w3 hR hF;have aw:=Lib.hid (hR.2.2 (hF 19 (by decide)).1);have au:=Lib.hid (HT.out.trans hR.1);clear hR hF;generalize xs 0=z0;generalize xs 1=z1;generalize xs 2=z2;generalize xs 3=z3;generalize xs 4=z4;generalize xs 5=z5;generalize xs 6=z6;generalize xs 7=z7;generalize xs 8=z8;generalize xs 9=z9;generalize xs 10=z10;generalize xs 11=z11;generalize xs 12=z12;generalize xs 13=z13;generalize xs 14=z14;generalize xs 15=z15;generalize xs 16=z16;generalize xs 17=z17;generalize xs 18=z18;go_wp2_with fail
     go_roundw
     case rel=>exact⟨k+1,by have:=Y.out;omega,by go_num,aw.out,au.out⟩
     case measure=>have:=Y.out;simp[intOf];omega
   ·have aX:p=0:=by
     rw[<-hp,List.getD_eq_getElem?_getD,List.getElem?_eq_none (by omega)];rfl
    clear hp;subst aX;have aH:(o.length:Int)<=(k:Int):=by omega
    go_upto_region 9 with(fail)
    clear l;refine Ord.walk (Ch B m t i a b 0) (Ht wr m (Dk.mq d o (k+1))) (fun _ _=>True)
     (by kernel_rfl) (by kernel_rfl) ?frC2 ?hfrC2 (fun _ _ _ _ _ h=>h) ?hsC2 ?heC2 ?hendC2
    case hsC2=>exact fun _=>⟨(Touch.refl _ _).drew,fun _=>(Touch.refl _ _).drew,fun h=>by cases h⟩
    case hfrC2=>
     intro xs;simp only[Ord.fill,Act.put,List.setIfInBounds_toArray,List.set_cons_zero,List.set_cons_succ];rfl
    case heC2=>
     iterate 20 (refine Ord.aa (fun D xs w2 hD hC hP hR c K f=>?_) ?_;rotate_left)
     rotate_left
     ·clear c;go_simp;exact f _ _ ⟨_,rfl,trivial,hR,rfl⟩
     ·have q0:=Ord.ab _ c 0 (by decide);simp only[Ch]at q0;simp only[q0]at f;clear c;go_simp;exact f _ _ ⟨_,rfl,trivial,hR,rfl⟩
     ·have q1:=Ord.ab _ c 1 (by decide);simp only[Ch]at q1;simp only[q1]at f;clear c;go_simp;exact f _ _ ⟨_,rfl,trivial,hR,rfl⟩
     ·have q2:=Ord.ab _ c 2 (by decide);simp only[Ch]at q2;simp only[q2]at f;clear c;have c0:=ah (v:=.map (some m)) (hR.1.row q.out (fun e=>j.out.b1 e)) 2 rfl;go_simp;exact f _ _ ⟨_,rfl,trivial,hR,rfl⟩
     ·clear c;go_simp;exact f _ _ ⟨_,rfl,trivial,hR,rfl⟩
     ·clear c;go_simp;exact f _ _ ⟨_,rfl,trivial,hR,rfl⟩
     ·have q5:=Ord.ab _ c 5 (by decide);simp only[Ch]at q5;simp only[q5]at f;clear c;go_simp;exact f _ _ ⟨_,rfl,trivial,hR,rfl⟩
     ·have q6:=Ord.ab _ c 6 (by decide);simp only[Ch]at q6;simp only[q6]at f;clear c;go_simp;exact f _ _ ⟨_,rfl,trivial,hR,rfl⟩
     ·have q7:=Ord.ab _ c 7 (by decide);simp only[Ch]at q7;simp only[q7]at f;clear c;have c0:=ah (v:=.map (some m)) (hR.1.row q.out (fun e=>j.out.b1 e)) 2 rfl;go_simp;exact f _ _ ⟨_,rfl,trivial,hR,rfl⟩
     ·clear c;go_simp;exact f _ _ ⟨_,rfl,trivial,hR,rfl⟩
     ·have q8:=Ord.ab _ c 8 (by decide);simp only[Ch]at q8;have q9:=Ord.ab _ c 9 (by decide);simp only[Ch]at q9;simp only[q8,q9]at f;clear c;have hN:D 19=false:=by
       cases h:D 19
       ·rfl
       ·have ao:=Ord.aL hC 19 18 (by kernel_rfl) h;have:=Ord.aL hC 18 10 (by kernel_rfl) ao;rw[hD]at this;cases this
      have hl:=(HM.out.al (hR.2.1 hN) id).look (a:=(i:Int)) (by omega) (by have:=Z.out;omega);rw[ar.out]at hl;go_simp;exact f _ _ ⟨_,rfl,trivial,hR,rfl⟩
     ·clear c;go_simp;exact f _ _ ⟨_,rfl,trivial,hR,rfl⟩
     ·have I:=Ord.ab _ c 11 (by decide);simp only[Ch]at I;simp only[I]at f;clear c;go_simp;exact f _ _ ⟨_,rfl,trivial,hR,rfl⟩
     ·have H:=Ord.ab _ c 12 (by decide);simp only[Ch]at H;simp only[H]at f;clear c;go_simp;exact f _ _ ⟨_,rfl,trivial,hR,rfl⟩
     ·have G:=Ord.ab _ c 13 (by decide);simp only[Ch]at G;simp only[G]at f;clear c;have c0:=ah (v:=.map (some t)) (hR.1.row q.out (fun e=>j.out.b1 e)) 3 rfl;go_simp;exact f _ _ ⟨_,rfl,trivial,hR,rfl⟩
     ·clear c;go_simp;exact f _ _ ⟨_,rfl,trivial,hR,rfl⟩
     ·have F:=Ord.ab _ c 14 (by decide);simp only[Ch]at F;have E:=Ord.ab _ c 15 (by decide);simp only[Ch]at E;simp only[F,E]at f;clear c;have hl:=(V.out.al hR.1 (fun e=>j.out.n12 e.symm)).look (a:=(i:Int)) (by omega) (by have:=Z.out;omega);rw[aM.out]at hl;go_simp;exact f _ _ ⟨_,rfl,trivial,hR,rfl⟩
     ·clear c;go_simp;exact f _ _ ⟨_,rfl,trivial,hR,rfl⟩
     ·have J:=Ord.ab _ c 10 (by decide);simp only[Ch]at J;have C:=Ord.ab _ c 16 (by decide);simp only[Ch]at C;have A:=Ord.ab _ c 17 (by decide);simp only[Ch]at A;simp only[J,C,A]at f;clear c;go_simp;refine(tq a b 0 w2 X.out W.out aN.out).mono ?_;rintro e w3⟨rfl,s⟩;exact f _ _ ⟨_,rfl,trivial,⟨hR.1.trans (.aE s),fun h=>(hR.2.1 h).trans (.aE s),fun h=>(hR.2.2 h).below s⟩,rfl⟩
     ·have q3:=Ord.ab _ c 3 (by decide);simp only[Ch]at q3;have q4:=Ord.ab _ c 4 (by decide);simp only[Ch]at q4;have y:=Ord.ab _ c 18 (by decide);simp only[Ch]at y;simp only[q3,q4,y]at f;clear c;obtain⟨w9,ad,L,ag⟩:=(HM.out.al (hR.2.1 hD) id).put (i:=i) aO.out (Dk.oJ (p:=0) X.out W.out);rw[av.out]at L;go_simp;exact f _ _ ⟨undef,rfl,trivial,⟨hR.1.trans ag,fun h=>(by cases h),fun _=>L⟩,trivial⟩
     exact Ord.az
    case hendC2=>
     intro D xs w3 hR hF;have aw:=Lib.hid (hR.2.2 (hF 19 (by decide)).1);have au:=Lib.hid (HT.out.trans hR.1);clear hR hF;generalize xs 0=z0;generalize xs 1=z1;generalize xs 2=z2;generalize xs 3=z3;generalize xs 4=z4;generalize xs 5=z5;generalize xs 6=z6;generalize xs 7=z7;generalize xs 8=z8;generalize xs 9=z9;generalize xs 10=z10;generalize xs 11=z11;generalize xs 12=z12;generalize xs 13=z13;generalize xs 14=z14;generalize xs 15=z15;generalize xs 16=z16;generalize xs 17=z17;generalize xs 18=z18;go_wp2_with fail
     go_roundw
     case rel=>exact⟨k+1,by have:=Y.out;omega,by go_num,aw.out,au.out⟩
     case measure=>have:=Y.out;simp[intOf];omega
  ·obtain rfl:k=n:=by omega
   have hM:=HM.out;rw[<-aF,Dk.zK j.out.own]at hM;have a2:=Lib.hid hM;have c3:=ah (v:=.map (some t)) q.out 3 rfl;obtain⟨w4,ad,ak,O⟩:=V.out.rD;have R:=O.row q.out (fun e=>j.out.b2 e);have f4:=aI R 4;have c4:=ah (v:=.int .i64 (d.bL:Int)) R 4 rfl;have s1:=aT (i:=4) R (.int .i64 0);have f5:=aI s1 5;have c5:=ah (v:=.bool d.off) s1 5 rfl;have s2:=aT (i:=5) s1 (.bool false);have N:Touch (·=B) w4 ((w4.setCell ⟨B,4,none⟩ (.int .i64 0)).setCell ⟨B,5,none⟩ (.bool false)):=(Touch.set (S:=(·=B)) B 4 (.int .i64 0) rfl).trans (.set B 5 (.bool false) rfl);have aQ:=Lib.hid (show bh ((w4.setCell ⟨B,4,none⟩ (.int .i64 0)).setCell ⟨B,5,none⟩ (.bool false)) B m t (Dk.ay d o)from⟨Dk.yR j.out.own o,by rw[Dk.dp j.out.own.ok];exact s2,(a2.out.al O (fun e=>j.out.n12 e)).al N (fun e=>j.out.b1 e.symm),
    by rw[j.out.own.ok.w]at ak;exact ak.al N (fun e=>j.out.b2 e.symm),j.out.b1,j.out.b2,j.out.n12⟩)
   have a1:=Lib.hid ((((Touch.aE (S:=DS B m t) a8.out).trans (HT.out.mono (T:=DS B m t) fun _ _ h=>Or.inr (Or.inl h))).trans (O.mono (T:=DS B m t) fun _ _ h=>Or.inr (Or.inr h))).trans (N.mono (T:=DS B m t) fun _ _ h=>Or.inl h));clear ak O R s1 s2 N hM;go_wp2_with fail
   go_ret;exact⟨rfl,aQ.out,a1.out⟩
end Go.Proofs.YtbpodmallknhfaaGreat
namespace Go.Proofs.YtbpodmallknhfaaGreat
open Go.RowKit Go.Maps Go.Sort Go.Shelf
open Classical in
noncomputable def zm(v:Value):Option (DataW (List Nat)×List MemPlace):=
 if h:∃i:Nat,i<64/\v=.int .i64 (i:Int)then some (.held [h.choose],[])else none
theorem sE{i:Nat}(h:i<64):zm (.int .i64 (i:Int))=some (.held [i],[]):=by
 have a:∃j:Nat,j<64/\Value.int .i64 (i:Int)=.int .i64 (j:Int):=⟨i,h,rfl⟩
 have b:a.choose=i:=by
  exact(Int.ofNat_inj.1 (Value.int.inj a.choose_spec.2).2).symm
 unfold zm;rw[dif_pos a,b]
theorem uo{v:Value}{y:DataW (List Nat)×List MemPlace}(h:zm v=some y):∃i:Nat,i<64/\v=.int .i64 (i:Int)/\y=(.held [i],[]):=by
 unfold zm at h;split at h
 ·next h1=>
  cases h;exact⟨_,h1.choose_spec.1,h1.choose_spec.2,rfl⟩
 ·cases h
def sW(H:List (Option Nat)):List (Option (List Nat)):=H.map (Option.map fun i=>[i])
theorem fo(H:List (Option Nat)):(sW H).length=H.length:=List.length_map ..
theorem xF(H:List (Option Nat))(k:Nat)(x:Option Nat):sW (H.set k x)=(sW H).set k (x.map fun i=>[i]):=by unfold sW;rw[List.map_set]
theorem rj(H:List (Option Nat)):(sW H).countP Option.isSome=H.countP Option.isSome:=by
 unfold sW;rw[List.countP_map];congr 1
 funext x
 cases x<;>rfl
def hz(H:List (Option Nat))(z:Int):Option Nat:=if 0<=z then H.getD z.toNat none else none
theorem wE(H:List (Option Nat))(z:Int):gz (sW H) z=(hz H z).map fun i=>[i]:=by
 unfold gz hz sW;split
 ·rw[List.getD_eq_getElem?_getD,List.getElem?_map,List.getD_eq_getElem?_getD];cases H[z.toNat]?<;>rfl
 ·rfl
theorem sF(H:List (Option Nat))(i:Nat):hz H (i:Int)=H.getD i none:=by simp[hz]
structure dJ(w:World)(m:Nat)(H:List (Option Nat)):Prop where
 own:w.ownsMap Tryz.prog 3 zm m ((sW H).countP Option.isSome) (dO (sW H))
 len:H.length<=65536
theorem dJ.of{w:World}{m n:Nat}{H:List (Option Nat)}(h:w.ownsMap Tryz.prog 3 zm m n (dO (sW H)))(a:H.length<=65536):dJ w m H:=
 ⟨fj (sW H)▸kT h,a⟩
theorem dJ.lt{w:World}{m:Nat}{H:List (Option Nat)}(h:dJ w m H):m<w.heap.size:=h.own.lt
theorem dJ.al{w w':World}{m:Nat}{H:List (Option Nat)}{S:Nat->Prop}(h:dJ w m H)(a:Touch S w w')(hs:¬S m):dJ w' m H:=by
 obtain⟨es,clock,c,F,b,d⟩:=h.own;exact⟨⟨es,clock,a.row c hs,F,b,d⟩,h.len⟩
theorem dJ.below{w w':World}{m:Nat}{H:List (Option Nat)}(h:dJ w m H)(a:Below w.heap.size w w'):dJ w' m H:=h.al (.aE (S:=fun _=>False) a) id
theorem DD(w:World){n:Nat}(a:n<=65536):dJ (w.alloc (.map #[] 0)) w.heap.size (List.replicate n none):=
 dJ.of (by
  have e:sW (List.replicate n none)=List.replicate n none:=by unfold sW;rw[List.map_replicate];rfl
  rw[e,mP];exact World.ownsMap_made w _ _ _) (by simpa using a)
theorem tc(w:World):(zeroValue 3).run Tryz.prog w=.ok (.int .i64 0) w:=by kernel_rfl
theorem dJ.look_ok{w:World}{m:Nat}{H:List (Option Nat)}(h:dJ w m H){a:Int}(n: -9223372036854775808<=a)(l:a<=9223372036854775807):
 (Instr.lookup 93 (.map (some m)) (.int .i64 a) true).run Tryz.prog w=.ok (.tuple #[.int .i64 (((hz H a).getD 0:Nat):Int),.bool (hz H a).isSome]) w:=by
 obtain⟨v,o,d,j⟩:=h.own.look_ok mg Tryz.underlying93 (tc w) (sE (i:=0) (by decide)) (gr n l);rw[fP,wE]at d;rw[fG,wE]at j;have k:v=.int .i64 (((hz H a).getD 0:Nat):Int):=by
  obtain⟨b,_,rfl,e⟩:=uo j;have f:=congrArg Prod.fst e;cases hg:hz H a with
  |none=>
   rw[hg]at f;have g:(DataW.held [0]:DataW (List Nat))=.held [b]:=f;cases g;rfl
  |some c=>
   rw[hg]at f;have g:(DataW.held [c]:DataW (List Nat))=.held [b]:=f;cases g;rfl
 subst k;rw[d];cases hz H a<;>rfl
theorem dJ.small{w:World}{m:Nat}{H:List (Option Nat)}(h:dJ w m H){a:Int}(k: -9223372036854775808<=a)(j:a<=9223372036854775807){i:Nat}(f:hz H a=some i):i<64:=by
 obtain⟨v,n,d,c⟩:=h.own.look_ok mg Tryz.underlying93 (tc w) (sE (i:=0) (by decide)) (gr k j);rw[fG,wE,f]at c;obtain⟨b,g,rfl,e⟩:=uo c;have l:(DataW.held [i]:DataW (List Nat))=.held [b]:=congrArg Prod.fst e;cases l;exact g
theorem dJ.put{w:World}{m:Nat}{H:List (Option Nat)}(h:dJ w m H){k:Nat}(d:k<H.length){i:Nat}(e:i<64):
 ∃w',(Instr.mapUpdate 93 (.map (some m)) (.int .i64 (k:Int)) (.int .i64 (i:Int))).run Tryz.prog w=.ok () w'/\dJ w' m (H.set k (some i))/\Touch (·=m) w w':=by
 have hl:=h.len;have f:=count_le (sW H);rw[fo]at f;obtain⟨w',b,c,g⟩:=h.own.update mg Tryz.underlying93 (by unfold maxLen;omega) (gr (a:=(k:Int)) (by omega) (by omega)) (sE e);rw[uk (by rw[fo];exact hl) (by rw[fo];exact d)]at c;exact⟨w',b,.of (by rw[xF];exact c) (by rw[List.length_set];exact hl),.fM g rfl⟩
theorem wQ{D:DataW (List Nat)}{P:Lit->Prop}(h:CanonK P D)(k:Lit):CanonK P (D.del k):=by
 obtain⟨es,rfl,b,a⟩:=h;rw[DataW.del_eq];exact⟨_,rfl,b.sublist List.filter_sublist,fun p hp=>a p (List.mem_filter.1 hp).1⟩
theorem Bw{L:List (Option (List Nat))}(d:L.length<=65536){i:Nat}(b:i<L.length):(dO L).del (.int .i64 (i:Int))=dO (L.set i none):=by
 refine pn (wQ (nH d) _) (fun z=>?_) (fun z f c a=>?_)
 ·rw[sJ b];by_cases h:z=i
  ·subst h;rw[if_pos rfl,has_del_same];rfl
  ·rw[if_neg h,has_del_other (by intro e;cases e;exact h rfl),fP]
 ·rw[sJ b]at a;by_cases h:z=i
  ·rw[if_pos h]at a;cases a
  ·rw[if_neg h]at a;rw[atKey_del_other (by intro e;cases e;exact h rfl),fG,a]
theorem dJ.drop{w:World}{m:Nat}{H:List (Option Nat)}(h:dJ w m H){k:Nat}(d:k<H.length):
 ∃w',(∀ty:TypeId,(Builtin.delete_ #[93,3] ty #[.map (some m),.int .i64 (k:Int)]).run Tryz.prog w=.ok (.tuple #[]) w')/\dJ w' m (H.set k none)/\Touch (·=m) w w':=by
 have hl:=h.len;obtain⟨w',b,c,e⟩:=h.own.drop mg Tryz.underlying93 (gr (a:=(k:Int)) (by omega) (by omega)) 3;rw[Bw (by rw[fo];exact hl) (by rw[fo];exact d)]at c;exact⟨w',fun ty=>b,.of (by rw[xF];exact c) (by rw[List.length_set];exact hl),.fM e.grown rfl⟩
theorem dJ.jA{w:World}{m:Nat}{H:List (Option Nat)}(h:dJ w m H)(ty:TypeId):(Builtin.len_ #[93] ty #[.map (some m)]).run Tryz.prog w=.ok (.int .i64 (H.countP Option.isSome:Nat)) w:=by
 rw[<-rj,<-fj];exact h.own.len Tryz.underlying93 ty
def cJ(H:List (Option Nat)):List Nat:=Dk.cO 0 (sW H)
theorem mh(H:List (Option Nat)):(cJ H).Pairwise (·< ·)/\∀x∈cJ H,x<H.length:=by
 obtain⟨c,b⟩:=eU (sW H) 0;refine⟨c,fun x a=>?_⟩;have:=(b x a).2;rw[fo]at this;omega
end Go.Proofs.YtbpodmallknhfaaGreat
