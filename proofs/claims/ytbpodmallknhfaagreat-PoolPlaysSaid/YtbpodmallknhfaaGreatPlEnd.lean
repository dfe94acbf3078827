/- For 1 to 12 frames and every list of at most 150 calls: pages are got as they were put last, however few frames there are; pins, refusals, and how many pages are held, are as the document says; what is dirty was put, and has the first Lsn since it was put back. Conditions: none beyond the row's own. -/
import Derived.Test.YtbpodmallknhfaaGreatRows
import Derived.Test.YtbpodmallknhfaaGreatPl23
import Derived.Test.YtbpodmallknhfaaGreatPl38
import Derived.WalkKit
import Derived.ProofKit
import Derived.SizedLaws
import Derived.OpenShut
import Derived.ShutString
import Derived.ChangeOld
import Derived.Below
namespace Go.Proofs.YtbpodmallknhfaaGreat.poolPlays
open Go.ChangeShapes Go.WideShapes Go.ChangeAt Go.RowKit
open Go.ChangeMaps (open_string shut_string)
theorem own:ownKnob Tryz.prog.godebug=none:=by kernel_rfl
theorem laidOut:laidOutB Tryz.prog=true:=by kernel_rfl
set_option maxRecDepth 100000 in
theorem contract(H:Type)(enc:TypeId×Value->H)(W:World)(base:Nat)(args:Array Value)(n gs:List (DataW H))(before:List MemPlace)
 (a:∀(j:Nat)t v,Tryz.f3.params[j]?=some t->args[j]?=some v->Value.okWide Tryz.prog W .any base t v)
 (r:DataW.Whole enc Tryz.prog Tryz.f3.params.toList Rows.poolPlaysSpec.vars false W args.toList n gs before)
 (g:(DataW.weightsEach Tryz.prog (Tryz.f3.params.toList++Rows.poolPlaysSpec.plain.varTypes Tryz.prog) (n++gs)).all (·<=reachBytes)=true):
 Calls Tryz.prog 3 args W fun e u=>∃v,e=.returned v/\Rows.poolPlaysSpec.post enc Tryz.prog Tryz.f3 false true false false W args v u:=by
 have k:=r;obtain⟨p,q,c,hV,rfl,_,_⟩:=r;have s:DataW.TrodAll enc Tryz.prog W 0 (fun _=>true) true Tryz.f3.params.toList args.toList n p:=c;rw[Tryz.params3]at s a g;obtain⟨v0,y,d0,B,F,E,i,rfl,rfl,h0,r0⟩:=trodAll_cons s;obtain⟨v1,w,d1,A,z,D,rfl,rfl,rfl,l,r1⟩:=trodAll_cons r0;obtain⟨rfl,rfl,rfl⟩:=trodAll_nil r1;obtain rfl:args=#[v0,v1]:=by cases args;simp_all
 obtain⟨rfl,rfl⟩:=trodVars_none hV;obtain⟨o,rfl,rfl,rfl,w0⟩:=open_int Tryz.underlying3 (a 0 3 v0 rfl rfl) h0;obtain⟨C,b,d,rfl⟩:=okWide_slice Tryz.underlying22 (a 1 22 v1 rfl rfl);have f:∀x∈z,x.block<W.heap.size:=by obtain⟨m,hm⟩:=l;exact DataW.trod_lt m _ _ _ hm
 obtain⟨l1,w1⟩:=xQ l;clear c;refine((pL Av o _ l1 W w1:Calls Tryz.prog 3 #[.int .i64 o,.slice C b d] W fun e w'=>e=.returned (.bool true)/\Below W.heap.size W w')).mono fun e u⟨he,fb⟩=>?_;subst he;exact⟨_,rfl,_,_,_,[],_,[],k,trodAll_mk1 (shut_bool Tryz.underlying4 _),(trodAll_cons_mk (shut_int Tryz.underlying3 w0) (trodAll_cons_mk (Below.trod laidOut (by kernel_rfl) (IJ (by kernel_rfl)) l fb f) trodAll_mk0)),rfl,fb.frame _,fun h=>by cases h⟩
set_option maxRecDepth 100000 in
theorem lifted(os:Os)(started:os.Started)(H:Type)(enc:TypeId×Value->H):
 ReturnsInHanded {} Tryz.checked os 3 .any (Rows.poolPlaysSpec.pre6 enc Tryz.prog Tryz.f3 Rows.poolPlaysRow.domain false) (Rows.poolPlaysSpec.post enc Tryz.prog Tryz.f3 false true false false):=by
 refine returnsInHanded_of_change_sized (C:=Tryz.checked) own started (by kernel_rfl) Tryz.func3
  (ChangeSpec.witness6 (enc:=enc) (C:=Tryz.checked) false ⟨#[],#[.int .i64 0,.slice none 0 0],[]⟩ 8 (by kernel_rfl) (by kernel_rfl) (by kernel_rfl) (by kernel_rfl)) ?_
 intro W base args d gs before a c _ b _;exact contract H enc W base args d gs before a c b
theorem over:Rows.poolPlaysRow.holds Tryz.pinned (OpenSpec.ofChange Rows.poolPlaysSpec):=
 OpenClaim.holds_of_wide 3 Tryz.f3 rfl rfl rfl rfl rfl rfl rfl ⟨rfl,rfl,rfl,rfl,rfl⟩ rfl rfl rfl rfl rfl (by kernel_rfl) Tryz.func3 (by kernel_rfl)
  (IJ (by kernel_rfl)) (by unfold Func.isWrapper;first|(rw[GU (by decide+kernel)];kernel_rfl)|(rw[GQ (by decide+kernel)];exact⟨rfl,rfl⟩))
  (fun os started H enc _=>lifted os started H enc)
theorem proved:Rows.PoolPlaysSaid:=over
end Go.Proofs.YtbpodmallknhfaaGreat.poolPlays
