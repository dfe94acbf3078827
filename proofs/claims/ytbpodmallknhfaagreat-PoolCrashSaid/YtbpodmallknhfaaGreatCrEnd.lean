/- For 1 to 12 frames, every list of at most 60 puts and flushes, wherever the power goes, at the mending too, whatever becomes of what waited: behind it each page is one that was put, none older than the last that was put back wholly, and the log ends beyond its Lsn. Conditions: none beyond the row's own. -/
import Derived.Test.YtbpodmallknhfaaGreatRows
import Derived.Test.YtbpodmallknhfaaGreatCr23
import Derived.Test.YtbpodmallknhfaaGreatCr08
import Derived.Test.YtbpodmallknhfaaGreatCr36
import Derived.WalkKit
import Derived.ProofKit
import Derived.SizedLaws
import Derived.OpenShut
import Derived.ShutString
import Derived.ChangeOld
import Derived.Below
namespace Go.Proofs.YtbpodmallknhfaaGreat.poolCrash
open Go.ChangeShapes Go.WideShapes Go.ChangeAt Go.RowKit
open Go.ChangeMaps (open_string shut_string)
theorem own:ownKnob Tryz.prog.godebug=none:=by kernel_rfl
theorem laidOut:laidOutB Tryz.prog=true:=by kernel_rfl
set_option maxRecDepth 100000 in
theorem contract(H:Type)(enc:TypeId×Value->H)(W:World)(base:Nat)(args:Array Value)(u gs:List (DataW H))(before:List MemPlace)
 (a:∀(j:Nat)t v,Tryz.f5.params[j]?=some t->args[j]?=some v->Value.okWide Tryz.prog W .any base t v)
 (B:DataW.Whole enc Tryz.prog Tryz.f5.params.toList Rows.poolCrashSpec.vars false W args.toList u gs before)
 (d:(DataW.weightsEach Tryz.prog (Tryz.f5.params.toList++Rows.poolCrashSpec.plain.varTypes Tryz.prog) (u++gs)).all (·<=reachBytes)=true):
 Calls Tryz.prog 5 args W fun e D=>∃v,e=.returned v/\Rows.poolCrashSpec.post enc Tryz.prog Tryz.f5 false true false false W args v D:=by
 have o:=B;obtain⟨p,q,f,O,rfl,_,_⟩:=B;have C:DataW.TrodAll enc Tryz.prog W 0 (fun _=>true) true Tryz.f5.params.toList args.toList u p:=f;rw[Tryz.params5]at C a d;obtain⟨v0,D7,d0,V,p0,q0,n,rfl,rfl,h0,r0⟩:=trodAll_cons C;obtain⟨v1,J,d1,U,N,q1,rfl,rfl,rfl,s,r1⟩:=trodAll_cons r0;obtain⟨v2,I,d2,T,p2,q2,rfl,rfl,rfl,Q,r2⟩:=trodAll_cons r1;obtain⟨v3,G,d3,S,p3,Z,rfl,rfl,rfl,P,L⟩:=trodAll_cons r2;obtain⟨v4,F,d4,R,M,Y,rfl,rfl,rfl,r,K⟩:=trodAll_cons L;obtain⟨rfl,rfl,rfl⟩:=trodAll_nil K;obtain rfl:args=#[v0,v1,v2,v3,v4]:=by cases args;simp_all
 obtain⟨rfl,rfl⟩:=trodVars_none O;obtain⟨z,rfl,rfl,rfl,w0⟩:=open_int Tryz.underlying3 (a 0 3 v0 rfl rfl) h0;obtain⟨X,c,i,rfl⟩:=okWide_slice Tryz.underlying22 (a 1 22 v1 rfl rfl);have l:∀x∈N,x.block<W.heap.size:=by obtain⟨m,hm⟩:=s;exact DataW.trod_lt m _ _ _ hm
 obtain⟨l1,w1⟩:=yT s;obtain⟨y,rfl,rfl,rfl,w2⟩:=open_int Tryz.underlying3 (a 2 3 v2 rfl rfl) Q;obtain⟨w,rfl,rfl,rfl,w3⟩:=open_int Tryz.underlying3 (a 3 3 v3 rfl rfl) P;obtain⟨a4,b,g,rfl⟩:=okWide_slice Tryz.underlying57 (a 4 57 v4 rfl rfl);have k:∀x∈M,x.block<W.heap.size:=by obtain⟨m,hm⟩:=r;exact DataW.trod_lt m _ _ _ hm
 obtain⟨A,E,c4⟩:=ua r;have s4:A.length<=140737488351232:=qS rfl d (j:=4) rfl rfl c4;clear f;refine((qs Bf EZ z _ l1 y w _ A W w1 (E (by omega)):Calls Tryz.prog 5 #[.int .i64 z,.slice X c i,.int .i64 y,.int .i64 w,.slice a4 b g] W fun e w'=>e=.returned (.bool true)/\Below W.heap.size W w')).mono fun e D⟨he,wX⟩=>?_;subst he;exact⟨_,rfl,_,_,_,[],_,[],o,trodAll_mk1 (shut_bool Tryz.underlying4 _),(trodAll_cons_mk (shut_int Tryz.underlying3 w0) (trodAll_cons_mk (Below.trod laidOut (by kernel_rfl) (of_decide_eq_true (by kernel_rfl)) s wX l) (trodAll_cons_mk (shut_int Tryz.underlying3 w2) (trodAll_cons_mk (shut_int Tryz.underlying3 w3) (trodAll_cons_mk (Below.trod laidOut (by kernel_rfl) (of_decide_eq_true (by kernel_rfl)) r wX k) trodAll_mk0))))),rfl,wX.frame _,fun h=>by cases h⟩
set_option maxRecDepth 100000 in
theorem lifted(os:Os)(started:os.Started)(H:Type)(enc:TypeId×Value->H):
 ReturnsInHanded {} Tryz.checked os 5 .any (Rows.poolCrashSpec.pre6 enc Tryz.prog Tryz.f5 Rows.poolCrashRow.domain false) (Rows.poolCrashSpec.post enc Tryz.prog Tryz.f5 false true false false):=by
 refine returnsInHanded_of_change_sized (C:=Tryz.checked) own started (by kernel_rfl) Tryz.func5
  (ChangeSpec.witness6 (enc:=enc) (C:=Tryz.checked) false ⟨#[],#[.int .i64 0,.slice none 0 0,.int .i64 0,.int .i64 0,.slice none 0 0],[]⟩ 8 (by kernel_rfl) (by kernel_rfl) (by kernel_rfl) (by kernel_rfl)) ?_
 intro W base args d gs before a c _ b _;exact contract H enc W base args d gs before a c b
theorem over:Rows.poolCrashRow.holds Tryz.pinned (OpenSpec.ofChange Rows.poolCrashSpec):=
 OpenClaim.holds_of_wide 5 Tryz.f5 rfl rfl rfl rfl rfl rfl rfl ⟨rfl,rfl,rfl,rfl,rfl⟩ rfl rfl rfl rfl rfl (by kernel_rfl) Tryz.func5 (by kernel_rfl)
  (of_decide_eq_true (by kernel_rfl)) (by unfold Func.isWrapper;first|(rw[if_pos (by decide+kernel)];kernel_rfl)|(rw[if_neg (by decide+kernel)];exact⟨rfl,rfl⟩))
  (fun os started H enc _=>lifted os started H enc)
theorem proved:Rows.PoolCrashSaid:=over
end Go.Proofs.YtbpodmallknhfaaGreat.poolCrash
