/- Parts of a proof. Conditions: as each row says. -/
import Derived.Test.YtbpodmallknhfaaGreatPl03
import Derived.Test.YtbpodmallknhfaaGreatPl06
import Derived.Test.YtbpodmallknhfaaGreatPl01
import Derived.Lib.SliceRun
import Derived.Deep.QuietTactic
import Derived.BigQuiet
import Derived.StillTailTactics
namespace Go.Proofs.YtbpodmallknhfaaGreat
open Go.RowKit
def CC(T:TypeId)(lo:Nat->Prop)(w:World)(B:Nat)(s:Value)(l:List Nat)(e:Nat):Prop:=
 w.heap[B]?=some (.cells #[s,.int .i64 (e:Int)] T (0,0))/\aJ w s l/\¬lo B/\(0<l.length->∀b,s.ownBlock=some b->lo b)
def Rd(T:TypeId)(lo:Nat->Prop)(w:World)(B:Nat)(l:List Nat)(e:Nat):Prop:=∃s,CC T lo w B s l e
theorem Rd.lt{T:TypeId}{lo:Nat->Prop}{B e:Nat}{w:World}{l:List Nat}(h:Rd T lo w B l e):B<w.heap.size:=by
 obtain⟨s,a,_⟩:=h;exact GN a
theorem CC.grown{T:TypeId}{lo:Nat->Prop}{B e:Nat}{w w':World}{s:Value}{l:List Nat}{row:Option Nat}(h:CC T lo w B s l e)(j:w.grownBy w' row)(f:∀g,row=some g->¬lo g/\g≠B):CC T lo w' B s l e:=by
 obtain⟨i,m,d,k⟩:=h;refine⟨?_,m.grown j ?_,d,k⟩
 ·rw[j.block B (GN i) ?_]
  ·exact i
  ·intro he;exact(f B he.symm).2 rfl
 ·intro h0 he;obtain⟨p,cap,n,_,_,hp⟩:=m.form;obtain⟨b,off,c,_⟩:=hp h0;subst c;have a:s.ownBlock=some b:=by rw[n];rfl
  exact(f b (by rw[<-he,a])).1 (k h0 b a)
theorem Rd.grown{T:TypeId}{lo:Nat->Prop}{B e:Nat}{w w':World}{l:List Nat}{row:Option Nat}(h:Rd T lo w B l e)(b:w.grownBy w' row)(a:∀g,row=some g->¬lo g/\g≠B):Rd T lo w' B l e:=by
 obtain⟨s,hs⟩:=h;exact⟨s,hs.grown b a⟩
theorem CC.below{T:TypeId}{lo:Nat->Prop}{B e:Nat}{w w':World}{s:Value}{l:List Nat}(h:CC T lo w B s l e)(b:Below w.heap.size w w'):CC T lo w' B s l e:=
 h.grown (row:=none) (bt b none) (fun g a=>by cases a)
theorem Rd.below{T:TypeId}{lo:Nat->Prop}{B e:Nat}{w w':World}{l:List Nat}(h:Rd T lo w B l e)(b:Below w.heap.size w w'):Rd T lo w' B l e:=
 h.grown (row:=none) (bt b none) (fun g a=>by cases a)
theorem nO{w:World}{B:Nat}{a b u:Value}{T:TypeId}(h:w.heap[B]?=some (.cells #[a,b] T (0,0))):(w.setCell ⟨B,0,none⟩ u).heap[B]?=some (.cells #[u,b] T (0,0)):=by
 have hlt:=GN h;have c:w.heap[B]=.cells #[a,b] T (0,0):=by simpa[Hq hlt]using h
 show(w.heap.modify B _)[B]?=_;rw[Hq (by simpa using hlt),IM,c];rfl
theorem nN{w:World}{B:Nat}{a b u:Value}{T:TypeId}(h:w.heap[B]?=some (.cells #[a,b] T (0,0))):(w.setCell ⟨B,1,none⟩ u).heap[B]?=some (.cells #[a,u] T (0,0)):=by
 have hlt:=GN h;have c:w.heap[B]=.cells #[a,b] T (0,0):=by simpa[Hq hlt]using h
 show(w.heap.modify B _)[B]?=_;rw[Hq (by simpa using hlt),IM,c];rfl
theorem bj{w:World}{B:Nat}{a b:Value}{T:TypeId}(h:w.heap[B]?=some (.cells #[a,b] T (0,0))):w.cell? ⟨B,0,none⟩=some a:=by simp[World.cell?,h]
theorem bp{w:World}{B:Nat}{a b:Value}{T:TypeId}(h:w.heap[B]?=some (.cells #[a,b] T (0,0))):w.cell? ⟨B,1,none⟩=some b:=by simp[World.cell?,h]
theorem ee{w:World}{B:Nat}{a b:Value}{T:TypeId}(h:w.heap[B]?=some (.cells #[a,b] T (0,0)))(o:Nat):w.frozen? ⟨B,o,none⟩=false:=by simp[World.frozen?,h]
theorem Rd.fail{T:TypeId}{lo:Nat->Prop}{B e:Nat}{w:World}{l:List Nat}(h:Rd T lo w B l e)(c:Nat):Rd T lo (w.setCell ⟨B,1,none⟩ (.int .i64 (c:Int))) B l c:=by
 obtain⟨s,d,f,a,b⟩:=h;exact⟨s,nN d,f.grown (aU w B 1 _) (fun h0 he=>a (b h0 B he)),a,b⟩
theorem Rd.move{T:TypeId}{lo:Nat->Prop}{B e:Nat}{w:World}{s c:Value}{d:List Nat}(g:w.heap[B]?=some (.cells #[s,.int .i64 (e:Int)] T (0,0)))(h:aJ w c d)(a:¬lo B)(f:0<d.length->∀b,c.ownBlock=some b->lo b):
 Rd T lo (w.setCell ⟨B,0,none⟩ c) B d e:=
 ⟨c,nO g,h.grown (aU w B 0 _) (fun h0 he=>a (f h0 B he)),a,f⟩
theorem CC.move{T:TypeId}{lo:Nat->Prop}{B e:Nat}{w:World}{s a:Value}{l c:List Nat}(h:CC T lo w B s l e)(g:aJ w a c)(d:a.ownBlock=s.ownBlock)(hl:c.length<=l.length:=by(simp only[Hj,G5,List.length_tail,Hz];omega)):
 Rd T lo (w.setCell ⟨B,0,none⟩ a) B c e:=Rd.move h.1 g h.2.2.1 (fun h0 b f=>h.2.2.2 (by omega) b (by rw[<-d];exact f))
theorem below_drewN(B:Nat)(w:World)(n:Nat):Below B w (w.drewN n):=⟨rfl,rfl,rfl,GH _,fun _ _=>rfl⟩
theorem dY(B:Nat)(w:World):Below B w w.drew:=⟨rfl,rfl,rfl,GH _,fun _ _=>rfl⟩
theorem dA{P:Program}{f:FuncId}{args:Array Value}{w:World}{n:Nat}{v:Value}
 (h:Calls P f args (w.drewN n) fun e w'=>e=.returned v/\w.drewN n=w'):Calls P f args (w.drewN n) fun e a=>e=.returned v/\∃m,a=w.drewN m:=
 Calls.quiet_of_same (h.mono fun _ _⟨he,hm⟩=>⟨he,hm.symm⟩)
theorem mW{P:Program}{f:FuncId}{args:Array Value}{w:World}{v:Value}
 (h:Calls P f args w fun e w'=>e=.returned v/\w=w'):Calls P f args w fun e a=>e=.returned v/\a=w:=
 h.mono fun _ _⟨he,hm⟩=>⟨he,hm.symm⟩
set_option maxHeartbeats 400000 in
set_option maxRecDepth 20000 in
theorem mA(v:Value)(l:List Nat)(w:World)(i:aJ w v l):
 Calls Tryz.prog 76 #[v] w fun e w'=>∃q,e=.returned q/\Own w.heap.size w' q l/\Below w.heap.size w w':=by
 have u:=GD i;obtain⟨p,cap,rfl,r,j,hp⟩:=i.form;have t:=GD i.len;have x:=fun(w:World)(a:Option Addr)(n c:Nat)=>Lib.run_eql_slice_nil (P:=Tryz.prog) w 57 5 a n c 0 0 Tryz.underlying57;cases p with
 |none=>
  obtain rfl:=j rfl;have k:l.length=0:=by omega
  obtain rfl:l=[]:=Hk k;clear i hp j;go_enter Tryz.func76,Tryz.ntmps76;go_wp2;go_ret;exact⟨_,rfl,cU _ _,GF _ _⟩
 |some ad=>
  have d:=kb w w.heap.size 0 #[] (GH _) (G7 _) rfl;have s:=GD d;have h:Below w.heap.size w (w.alloc (.cells #[] 5)):=(GF _ _).alloc (GH _) _;have f:=GD h;clear r j hp i d h;go_enter Tryz.func76,Tryz.ntmps76;go_upto_region 3 with(fail)
  iterate 7 go_step
  refine aA rfl (.tmp 5) (.tmp 6) rfl w.heap.size _ [] rfl s.out _ l rfl (u.out.below f.out) (by have:=t.out;simpa using this) f.out.size ?_;intro v1 w1 b g _;rw[Hg]at b;have o:=GD b;have m:=GD (f.out.trans g);clear b g;go_wp2;go_ret;exact⟨_,rfl,o.out,m.out⟩
set_option maxHeartbeats 400000 in
set_option maxRecDepth 20000 in
theorem kG(v:Value)(l:List Nat)(w:World)(g:aJ w v l):
 Calls Tryz.prog 128 #[v] w fun e w'=>∃B,e=.returned (.pointer (some ⟨B,0,none⟩))/\Rd 217 (fun b=>w.heap.size<=b/\b<B) w' B l 0/\w.heap.size<=B/\Below w.heap.size w w':=by
 have m:=GD g;clear g;go_enter Tryz.func128,Tryz.ntmps128;go_wp2_with fail
 refine(mA _ l _ m.out).mono ?_;rintro e w1⟨v1,rfl,f,d⟩;have c:=GD f;have a:=GD d;clear f d;obtain⟨p,cap,rfl,i,j,hp⟩:=c.out.aP.form;clear i j hp;go_wp2;go_ret;refine⟨_,rfl,⟨_,GM _ _,c.out.aP.below ((GF _ _).alloc (GH _) _),(fun h=>Jc _ h.2),fun _ b k=>?_⟩,a.out.size,a.out.alloc a.out.size _⟩;exact World.ownsRow.lt c.out.own b k
set_option maxHeartbeats 400000 in
set_option maxRecDepth 20000 in
theorem ko(lo:Nat->Prop)(B e:Nat)(l:List Nat)(w:World)(hR:Rd 217 lo w B l e):
 Calls Tryz.prog 181 #[.pointer (some ⟨B,0,none⟩)] w fun d w'=>d=.returned (.int .i64 (e:Int))/\w=w':=by
 obtain⟨s,a,c,-,-⟩:=hR;have b:=bp a;clear c a;go_enter Tryz.func181,Tryz.ntmps181;go_wp2;go_ret;exact⟨rfl,rfl⟩
theorem oc(k:Nat):(2:Nat)^(8*k)=256^k:=by rw[Nat.pow_mul]
theorem sx(x k:Nat):(x:Int)*2^(8*k)=((x*256^k:Nat):Int):=by
 rw[<-oc k,Int.natCast_mul,Int.natCast_pow];rfl
theorem zQ(x k c:Nat)(a:x<256)(b:k<c):x*256^k<256^c:=by
 have d:x*256^k<256^(k+1):=by
  rw[Jk,Nat.mul_comm];exact Nat.mul_lt_mul_of_pos_left a (Nat.pow_pos (by decide))
 exact Hh d (I4 (by decide) b)
theorem Ay(acc x k:Nat)(c:k<4)(a:acc<256^k)(b:x<256):bits .or .u32 (acc:Int) (IntKind.u32.wrap ((x:Int)*2^(8*k)))=((acc+x*256^k:Nat):Int):=by
 have e:x*256^k<4294967296:=zQ x k 4 b c;have d:acc<4294967296:=Hh a (I4 (i:=k) (j:=4) (by decide:256>0) (by omega));rw[sx];have hw:IntKind.u32.wrap ((x*256^k:Nat):Int)=((x*256^k:Nat):Int):=by
  rw[show IntKind.u32.wrap ((x*256^k:Nat):Int)=((x*256^k:Nat):Int)%4294967296 by simp[IntKind.wrap,IntKind.bits,IntKind.signed]];omega
 rw[hw,u32_or_nat _ _ d e,Nat.or_comm,nat_join (8*k) _ _ (by rw[oc];exact Nat.mul_mod_left _ _) (by rw[oc];exact a),Nat.add_comm]
theorem vp(l:List Nat)(k:Nat)(x:Nat)(d:k<4)(hl:k<l.length)(hs:∀y∈l,y<256)(c:x<256)(f:l.take (k+1)=l.take k++[x]):
 bits .or .u32 (aH.num (l.take k):Nat) (IntKind.u32.wrap ((x:Int)*2^(8*k)))=(aH.num (l.take (k+1)):Nat):=by
 have a:(l.take k).length=k:=by simp;omega
 have e:aH.num (l.take k)<256^k:=by
  have:=aH.oz (l.take k) (fun y b=>hs y (Hl b));rwa[a]at this
 rw[Ay _ x k d e c,f,aH.oy,a]
set_option maxHeartbeats 400000 in
set_option maxRecDepth 20000 in
theorem uy(lo:Nat->Prop)(B e:Nat)(l:List Nat)(w:World)(hR:Rd 217 lo w B l e)(he:e≠0):
 Calls Tryz.prog 173 #[.pointer (some ⟨B,0,none⟩)] w fun a w'=>a=.returned (.int .u32 0)/\w=w':=by
 have b:=GD hR;have h0:((e:Int)==0)=false:=by simp;omega
 have d:((e:Int)!=0)=true:=by simp;omega
 have c:¬(e:Int)=0:=by omega
 clear hR he;go_enter Tryz.func173,Tryz.ntmps173;go_wp2_with fail
 refine(ko lo B e l _ b.out).mono ?_;rintro a w'⟨rfl,rfl⟩;go_wp2_with fail
 go_ret;exact⟨rfl,rfl⟩
set_option maxHeartbeats 800000 in
set_option maxRecDepth 20000 in
theorem qU(lo:Nat->Prop)(B:Nat)(l:List Nat)(w:World)(hR:Rd 217 lo w B l 0)(hl:l.length<4):
 Calls Tryz.prog 173 #[.pointer (some ⟨B,0,none⟩)] w fun e w'=>e=.returned (.int .u32 0)/\Rd 217 lo w' B l 4/\w.grownBy w' (some B):=by
 have c:=GD hR;obtain⟨s,a,b,-,-⟩:=hR;obtain⟨p,cap,rfl,-,-,-⟩:=b.form;have f:=bj a;have d:=bp a;have hf:=ee a 1;clear b a;go_enter Tryz.func173,Tryz.ntmps173;go_wp2_with fail
 refine(ko lo B 0 l _ c.out).mono ?_;rintro e w'⟨rfl,rfl⟩;go_wp2_with fail
 go_quiet ((go_at_call 157;exact dA (j2 _)))
 go_wp2;go_ret;exact⟨rfl,(c.out.below (below_drewN _ _ _)).fail 4,bg (bt (below_drewN _ _ _) _) (aU _ _ _ _)⟩
set_option maxHeartbeats 1600000 in
set_option maxRecDepth 20000 in
theorem xo (lo : Nat → Prop) (B : Nat) (l : List Nat) (w : World) (hR : Rd 217 lo w B l 0) (hl : 4 ≤ l.length) :
    Calls Tryz.prog 173 #[.pointer (some ⟨B, 0, none⟩)] w fun e w' => e = .returned (.int .u32 (aH.num (l.take 4) : Nat)) ∧ Rd 217 lo w' B (l.drop 4) 0 ∧ w.grownBy w' (some B) := by
  have I := GD hR
  obtain ⟨s, r⟩ := hR
  have H := GD r
  have t := GD r.2.1
  obtain ⟨p, cap, rfl, u, G, hp⟩ := t.out.form
  obtain ⟨b, off, rfl, z⟩ := hp (by omega)
  have D := u.1
  have y := u.2
  have d := bj r.1
  clear r u G hp z
  go_enter Tryz.func173, Tryz.ntmps173
  go_wp2_with fail
  refine (ko lo B 0 l _ I.out).mono ?_
  rintro e w' ⟨rfl, rfl⟩
  go_wp2_with fail
  go_quiet ((go_at_call 157; exact dA (j2 _)))
  go_wp2
  have f := GD (below_drewN w.heap.size w nq)
  have g := GD (H.out.below f.out)
  generalize w.drewN nq = w2 at f g ⊢
  clear d
  have d := bj g.out.1
  go_quiet ((go_at_call 157; exact dA (j2 _)))
  have m := GD (f.out.trans (below_drewN w.heap.size w2 nq))
  have a := GD (g.out.below (below_drewN w2.heap.size w2 nq))
  generalize w2.drewN nq = w3 at m a ⊢
  clear d f g
  go_wp2
  have hlen := t.out.len
  go_loop [3, 26] (fun n i => ∃ k : Nat, k ≤ 4 ∧ i = .int .i64 k ∧ n = .int .u32 (aH.num (l.take k) : Nat)) (fun _ i => 4 - (intOf i).toNat)
  case atStart => exact ⟨0, by omega, rfl, rfl⟩
  case round =>
    obtain ⟨k, K, rfl, rfl⟩ := hrel
    by_cases hlt : k < 4
    · have v : w3.cell? ⟨b, off + k, none⟩ = some (.int .u8 (l.getD k 0 : Nat)) := by
        obtain ⟨J, E, he, -, -, hp⟩ := a.out.2.1.form
        obtain ⟨L, A, j, z⟩ := hp (by omega)
        simp only [Hc] at he
        obtain ⟨rfl, -, rfl⟩ := he
        simp only [GO, Im] at j
        obtain ⟨rfl, rfl, -⟩ := j
        exact z k (by omega)
      have C := t.out.getD k
      have F := GD (dR l k (by omega))
      generalize l.getD k 0 = x at v C F
      have q := GD (vp l k x hlt (by omega) t.out.small C F.out)
      have c := q.out
      rw [show IntKind.u32.wrap ((x : Int) * 2 ^ (8 * k)) = (x : Int) * 2 ^ (8 * k) % 4294967296 by simp [IntKind.wrap, IntKind.bits, IntKind.signed]] at c
      have o := GD c
      clear c
      go_wp2
      go_round
      case rel => exact ⟨k + 1, by omega, by go_num, by first | rw [q.out] | rw [o.out]⟩
      case measure => simp [intOf]; omega
    · obtain rfl : k = 4 := by omega
      have d := bj a.out.1
      have hf := ee a.out.1 0
      go_wp2
      refine wp_region_still_tail 9 (by kernel_rfl) (by kernel_rfl) ?_
      simp only [List.take_succ_cons, IQ, List.drop_succ_cons, I8]
      iterate 5 still_step
      still_call (mW (j2 _))
      repeat still_step
      refine wpStill_nil ?_
      go_wp2
      all_goals
        go_ret
        refine ⟨rfl, ?_, bg (bt m.out _) (bg (eY _ _) (aU _ _ _ _))⟩
        refine (a.out.below (dY _ _)).move ?_ rfl
        try rw [← List.drop_one]
        first
          | exact (a.out.2.1.below (dY _ _)).drop 4 hl
          | (have hz : l.length = 4 := by omega
             rw [show l.drop 4 = [] from Jb (by omega), hz]
             exact ⟨⟨_, _, rfl, by simp, (fun h => by simp at h), fun h => absurd h (by simp)⟩, by simp, by simp⟩)
theorem uz(lo:Nat->Prop)(B e:Nat)(l:List Nat)(w:World)(hR:Rd 217 lo w B l e):
 Calls Tryz.prog 173 #[.pointer (some ⟨B,0,none⟩)] w fun a w'=>a=.returned (.int .u32 ((aH.rdNum 4 l e).1:Nat))/\Rd 217 lo w' B (aH.rdNum 4 l e).2.1 (aH.rdNum 4 l e).2.2/\w.grownBy w' (some B):=by
 unfold aH.rdNum;by_cases he:e≠0
 ·rw[GU he];exact(uy lo B e l w hR he).mono fun a w'⟨c,b⟩=>by subst b;exact⟨c,hR,de _ _⟩
 ·obtain rfl:e=0:=by omega
  rw[GQ he];by_cases hl:l.length<4
  ·rw[GU hl];exact qU lo B l w hR hl
  ·rw[GQ hl];exact xo lo B l w hR (by omega)
set_option maxHeartbeats 400000 in
set_option maxRecDepth 20000 in
theorem nm(lo:Nat->Prop)(B e:Nat)(l:List Nat)(w:World)(hR:Rd 217 lo w B l e):
 Calls Tryz.prog 144 #[.pointer (some ⟨B,0,none⟩)] w fun c w'=>c=.returned (.int .u32 ((aH.rdNum 4 l e).1:Nat))/\Rd 217 lo w' B (aH.rdNum 4 l e).2.1 (aH.rdNum 4 l e).2.2/\w.grownBy w' (some B):=by
 have d:=GD hR;clear hR;go_enter Tryz.func144,Tryz.ntmps144;go_wp2_with fail
 refine(uz lo B e l _ d.out).mono ?_;rintro c w1⟨rfl,b,a⟩;have H1:=GD b;have f:=GD a;clear b a;go_wp2;go_ret;exact⟨rfl,H1.out,f.out⟩
theorem Ax(acc x k:Nat)(c:k<8)(a:acc<256^k)(b:x<256):bits .or .u64 (acc:Int) (IntKind.u64.wrap ((x:Int)*2^(8*k)))=((acc+x*256^k:Nat):Int):=by
 have e:x*256^k<18446744073709551616:=zQ x k 8 b c;have d:acc<18446744073709551616:=Hh a (I4 (i:=k) (j:=8) (by decide:256>0) (by omega));rw[sx];have hw:IntKind.u64.wrap ((x*256^k:Nat):Int)=((x*256^k:Nat):Int):=by
  rw[show IntKind.u64.wrap ((x*256^k:Nat):Int)=((x*256^k:Nat):Int)%18446744073709551616 by simp[IntKind.wrap,IntKind.bits,IntKind.signed]];omega
 rw[hw,u64_or_nat _ _ d e,Nat.or_comm,nat_join (8*k) _ _ (by rw[oc];exact Nat.mul_mod_left _ _) (by rw[oc];exact a),Nat.add_comm]
theorem vo(l:List Nat)(k:Nat)(x:Nat)(d:k<8)(hl:k<l.length)(hs:∀y∈l,y<256)(c:x<256)(f:l.take (k+1)=l.take k++[x]):
 bits .or .u64 (aH.num (l.take k):Nat) (IntKind.u64.wrap ((x:Int)*2^(8*k)))=(aH.num (l.take (k+1)):Nat):=by
 have a:(l.take k).length=k:=by simp;omega
 have e:aH.num (l.take k)<256^k:=by
  have:=aH.oz (l.take k) (fun y b=>hs y (Hl b));rwa[a]at this
 rw[Ax _ x k d e c,f,aH.oy,a]
set_option maxHeartbeats 400000 in
set_option maxRecDepth 20000 in
theorem uw(lo:Nat->Prop)(B e:Nat)(l:List Nat)(w:World)(hR:Rd 217 lo w B l e)(he:e≠0):
 Calls Tryz.prog 174 #[.pointer (some ⟨B,0,none⟩)] w fun a w'=>a=.returned (.int .u64 0)/\w=w':=by
 have b:=GD hR;have h0:((e:Int)==0)=false:=by simp;omega
 have d:((e:Int)!=0)=true:=by simp;omega
 have c:¬(e:Int)=0:=by omega
 clear hR he;go_enter Tryz.func174,Tryz.ntmps174;go_wp2_with fail
 refine(ko lo B e l _ b.out).mono ?_;rintro a w'⟨rfl,rfl⟩;go_wp2_with fail
 go_ret;exact⟨rfl,rfl⟩
set_option maxHeartbeats 800000 in
set_option maxRecDepth 20000 in
theorem qT(lo:Nat->Prop)(B:Nat)(l:List Nat)(w:World)(hR:Rd 217 lo w B l 0)(hl:l.length<8):
 Calls Tryz.prog 174 #[.pointer (some ⟨B,0,none⟩)] w fun e w'=>e=.returned (.int .u64 0)/\Rd 217 lo w' B l 4/\w.grownBy w' (some B):=by
 have c:=GD hR;obtain⟨s,a,b,-,-⟩:=hR;obtain⟨p,cap,rfl,-,-,-⟩:=b.form;have f:=bj a;have d:=bp a;have hf:=ee a 1;clear b a;go_enter Tryz.func174,Tryz.ntmps174;go_wp2_with fail
 refine(ko lo B 0 l _ c.out).mono ?_;rintro e w'⟨rfl,rfl⟩;go_wp2_with fail
 go_quiet ((go_at_call 156;exact dA (j1 _)))
 go_wp2;go_ret;exact⟨rfl,(c.out.below (below_drewN _ _ _)).fail 4,bg (bt (below_drewN _ _ _) _) (aU _ _ _ _)⟩
set_option maxHeartbeats 1600000 in
set_option maxRecDepth 20000 in
theorem xn (lo : Nat → Prop) (B : Nat) (l : List Nat) (w : World) (hR : Rd 217 lo w B l 0) (hl : 8 ≤ l.length) :
    Calls Tryz.prog 174 #[.pointer (some ⟨B, 0, none⟩)] w fun e w' => e = .returned (.int .u64 (aH.num (l.take 8) : Nat)) ∧ Rd 217 lo w' B (l.drop 8) 0 ∧ w.grownBy w' (some B) := by
  have I := GD hR
  obtain ⟨s, r⟩ := hR
  have H := GD r
  have t := GD r.2.1
  obtain ⟨p, cap, rfl, u, G, hp⟩ := t.out.form
  obtain ⟨b, off, rfl, z⟩ := hp (by omega)
  have D := u.1
  have y := u.2
  have d := bj r.1
  clear r u G hp z
  go_enter Tryz.func174, Tryz.ntmps174
  go_wp2_with fail
  refine (ko lo B 0 l _ I.out).mono ?_
  rintro e w' ⟨rfl, rfl⟩
  go_wp2_with fail
  go_quiet ((go_at_call 156; exact dA (j1 _)))
  go_wp2
  have f := GD (below_drewN w.heap.size w nq)
  have g := GD (H.out.below f.out)
  generalize w.drewN nq = w2 at f g ⊢
  clear d
  have d := bj g.out.1
  go_quiet ((go_at_call 156; exact dA (j1 _)))
  have m := GD (f.out.trans (below_drewN w.heap.size w2 nq))
  have a := GD (g.out.below (below_drewN w2.heap.size w2 nq))
  generalize w2.drewN nq = w3 at m a ⊢
  clear d f g
  go_wp2
  have hlen := t.out.len
  go_loop [3, 26] (fun n i => ∃ k : Nat, k ≤ 8 ∧ i = .int .i64 k ∧ n = .int .u64 (aH.num (l.take k) : Nat)) (fun _ i => 8 - (intOf i).toNat)
  case atStart => exact ⟨0, by omega, rfl, rfl⟩
  case round =>
    obtain ⟨k, K, rfl, rfl⟩ := hrel
    by_cases hlt : k < 8
    · have v : w3.cell? ⟨b, off + k, none⟩ = some (.int .u8 (l.getD k 0 : Nat)) := by
        obtain ⟨J, E, he, -, -, hp⟩ := a.out.2.1.form
        obtain ⟨L, A, j, z⟩ := hp (by omega)
        simp only [Hc] at he
        obtain ⟨rfl, -, rfl⟩ := he
        simp only [GO, Im] at j
        obtain ⟨rfl, rfl, -⟩ := j
        exact z k (by omega)
      have C := t.out.getD k
      have F := GD (dR l k (by omega))
      generalize l.getD k 0 = x at v C F
      have q := GD (vo l k x hlt (by omega) t.out.small C F.out)
      have c := q.out
      rw [show IntKind.u64.wrap ((x : Int) * 2 ^ (8 * k)) = (x : Int) * 2 ^ (8 * k) % 18446744073709551616 by simp [IntKind.wrap, IntKind.bits, IntKind.signed]] at c
      have o := GD c
      clear c
      go_wp2
      go_round
      case rel => exact ⟨k + 1, by omega, by go_num, by first | rw [q.out] | rw [o.out]⟩
      case measure => simp [intOf]; omega
    · obtain rfl : k = 8 := by omega
      have d := bj a.out.1
      have hf := ee a.out.1 0
      go_wp2
      refine wp_region_still_tail 9 (by kernel_rfl) (by kernel_rfl) ?_
      simp only [List.take_succ_cons, IQ, List.drop_succ_cons, I8]
      iterate 5 still_step
      still_call (mW (j1 _))
      repeat still_step
      refine wpStill_nil ?_
      go_wp2
      all_goals
        go_ret
        refine ⟨rfl, ?_, bg (bt m.out _) (bg (eY _ _) (aU _ _ _ _))⟩
        refine (a.out.below (dY _ _)).move ?_ rfl
        try rw [← List.drop_one]
        first
          | exact (a.out.2.1.below (dY _ _)).drop 8 hl
          | (have hz : l.length = 8 := by omega
             rw [show l.drop 8 = [] from Jb (by omega), hz]
             exact ⟨⟨_, _, rfl, by simp, (fun h => by simp at h), fun h => absurd h (by simp)⟩, by simp, by simp⟩)
theorem ux(lo:Nat->Prop)(B e:Nat)(l:List Nat)(w:World)(hR:Rd 217 lo w B l e):
 Calls Tryz.prog 174 #[.pointer (some ⟨B,0,none⟩)] w fun a w'=>a=.returned (.int .u64 ((aH.rdNum 8 l e).1:Nat))/\Rd 217 lo w' B (aH.rdNum 8 l e).2.1 (aH.rdNum 8 l e).2.2/\w.grownBy w' (some B):=by
 unfold aH.rdNum;by_cases he:e≠0
 ·rw[GU he];exact(uw lo B e l w hR he).mono fun a w'⟨c,b⟩=>by subst b;exact⟨c,hR,de _ _⟩
 ·obtain rfl:e=0:=by omega
  rw[GQ he];by_cases hl:l.length<8
  ·rw[GU hl];exact qT lo B l w hR hl
  ·rw[GQ hl];exact xn lo B l w hR (by omega)
set_option maxHeartbeats 400000 in
set_option maxRecDepth 20000 in
theorem Cz(lo:Nat->Prop)(B e:Nat)(l:List Nat)(w:World)(hR:Rd 217 lo w B l e):
 Calls Tryz.prog 145 #[.pointer (some ⟨B,0,none⟩)] w fun c w'=>c=.returned (.int .u64 ((aH.rdNum 8 l e).1:Nat))/\Rd 217 lo w' B (aH.rdNum 8 l e).2.1 (aH.rdNum 8 l e).2.2/\w.grownBy w' (some B):=by
 have d:=GD hR;clear hR;go_enter Tryz.func145,Tryz.ntmps145;go_wp2_with fail
 refine(ux lo B e l _ d.out).mono ?_;rintro c w1⟨rfl,b,a⟩;have H1:=GD b;have f:=GD a;clear b a;go_wp2;go_ret;exact⟨rfl,H1.out,f.out⟩
end Go.Proofs.YtbpodmallknhfaaGreat
