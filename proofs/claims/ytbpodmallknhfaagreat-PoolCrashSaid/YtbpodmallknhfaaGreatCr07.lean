/- Parts of a proof. Conditions: as each row says. -/
import Derived.Test.YtbpodmallknhfaaGreatCr03
import Derived.Test.YtbpodmallknhfaaGreatCr06
import Derived.Test.YtbpodmallknhfaaGreatCr01
import Derived.Lib.SliceRun
import Derived.Deep.QuietTactic
import Derived.BigQuiet
import Derived.StillTailTactics
namespace Go.Proofs.YtbpodmallknhfaaGreat
open Go.RowKit
def Cy(T:TypeId)(lo:Nat->Prop)(w:World)(B:Nat)(s:Value)(l:List Nat)(e:Nat):Prop:=
 w.heap[B]?=some (.cells #[s,.int .i64 (e:Int)] T (0,0))/\aV w s l/\¬lo B/\(0<l.length->∀b,s.ownBlock=some b->lo b)
def Rd(T:TypeId)(lo:Nat->Prop)(w:World)(B:Nat)(l:List Nat)(e:Nat):Prop:=∃s,Cy T lo w B s l e
theorem Rd.lt{T:TypeId}{lo:Nat->Prop}{B e:Nat}{w:World}{l:List Nat}(h:Rd T lo w B l e):B<w.heap.size:=by
 obtain⟨s,a,_⟩:=h;exact lt_of_block a
theorem Cy.grown{T:TypeId}{lo:Nat->Prop}{B e:Nat}{w w':World}{s:Value}{l:List Nat}{row:Option Nat}(h:Cy T lo w B s l e)(j:w.grownBy w' row)(f:∀g,row=some g->¬lo g/\g≠B):Cy T lo w' B s l e:=by
 obtain⟨i,m,d,k⟩:=h;refine⟨?_,m.grown j ?_,d,k⟩
 ·rw[j.block B (lt_of_block i) ?_]
  ·exact i
  ·intro he;exact(f B he.symm).2 rfl
 ·intro h0 he;obtain⟨p,cap,n,_,_,hp⟩:=m.form;obtain⟨b,off,c,_⟩:=hp h0;subst c;have a:s.ownBlock=some b:=by rw[n];rfl
  exact(f b (by rw[<-he,a])).1 (k h0 b a)
theorem Rd.grown{T:TypeId}{lo:Nat->Prop}{B e:Nat}{w w':World}{l:List Nat}{row:Option Nat}(h:Rd T lo w B l e)(b:w.grownBy w' row)(a:∀g,row=some g->¬lo g/\g≠B):Rd T lo w' B l e:=by
 obtain⟨s,hs⟩:=h;exact⟨s,hs.grown b a⟩
theorem Cy.below{T:TypeId}{lo:Nat->Prop}{B e:Nat}{w w':World}{s:Value}{l:List Nat}(h:Cy T lo w B s l e)(b:Below w.heap.size w w'):Cy T lo w' B s l e:=
 h.grown (row:=none) (aR b none) (fun g a=>by cases a)
theorem Rd.below{T:TypeId}{lo:Nat->Prop}{B e:Nat}{w w':World}{l:List Nat}(h:Rd T lo w B l e)(b:Below w.heap.size w w'):Rd T lo w' B l e:=
 h.grown (row:=none) (aR b none) (fun g a=>by cases a)
theorem oG{w:World}{B:Nat}{a b u:Value}{T:TypeId}(h:w.heap[B]?=some (.cells #[a,b] T (0,0))):(w.setCell ⟨B,0,none⟩ u).heap[B]?=some (.cells #[u,b] T (0,0)):=by
 have c:=lt_of_block h;have d:w.heap[B]=.cells #[a,b] T (0,0):=by simpa[Array.getElem?_eq_getElem c]using h
 show(w.heap.modify B _)[B]?=_;rw[Array.getElem?_eq_getElem (by simpa using c),Array.getElem_modify_self,d];rfl
theorem oF{w:World}{B:Nat}{a b u:Value}{T:TypeId}(h:w.heap[B]?=some (.cells #[a,b] T (0,0))):(w.setCell ⟨B,1,none⟩ u).heap[B]?=some (.cells #[a,u] T (0,0)):=by
 have c:=lt_of_block h;have d:w.heap[B]=.cells #[a,b] T (0,0):=by simpa[Array.getElem?_eq_getElem c]using h
 show(w.heap.modify B _)[B]?=_;rw[Array.getElem?_eq_getElem (by simpa using c),Array.getElem_modify_self,d];rfl
theorem bc{w:World}{B:Nat}{a b:Value}{T:TypeId}(h:w.heap[B]?=some (.cells #[a,b] T (0,0))):w.cell? ⟨B,0,none⟩=some a:=by simp[World.cell?,h]
theorem bI{w:World}{B:Nat}{a b:Value}{T:TypeId}(h:w.heap[B]?=some (.cells #[a,b] T (0,0))):w.cell? ⟨B,1,none⟩=some b:=by simp[World.cell?,h]
theorem cP{w:World}{B:Nat}{a b:Value}{T:TypeId}(h:w.heap[B]?=some (.cells #[a,b] T (0,0)))(o:Nat):w.frozen? ⟨B,o,none⟩=false:=by simp[World.frozen?,h]
theorem Rd.fail{T:TypeId}{lo:Nat->Prop}{B e:Nat}{w:World}{l:List Nat}(h:Rd T lo w B l e)(c:Nat):Rd T lo (w.setCell ⟨B,1,none⟩ (.int .i64 (c:Int))) B l c:=by
 obtain⟨s,d,f,a,b⟩:=h;exact⟨s,oF d,f.grown (an w B 1 _) (fun h0 he=>a (b h0 B he)),a,b⟩
theorem Rd.move{T:TypeId}{lo:Nat->Prop}{B e:Nat}{w:World}{s c:Value}{d:List Nat}(g:w.heap[B]?=some (.cells #[s,.int .i64 (e:Int)] T (0,0)))(h:aV w c d)(a:¬lo B)(f:0<d.length->∀b,c.ownBlock=some b->lo b):
 Rd T lo (w.setCell ⟨B,0,none⟩ c) B d e:=
 ⟨c,oG g,h.grown (an w B 0 _) (fun h0 he=>a (f h0 B he)),a,f⟩
theorem Cy.move{T:TypeId}{lo:Nat->Prop}{B e:Nat}{w:World}{s a:Value}{l c:List Nat}(h:Cy T lo w B s l e)(g:aV w a c)(d:a.ownBlock=s.ownBlock)(hl:c.length<=l.length:=by(simp only[List.length_take,List.length_drop,List.length_tail,List.length_nil];omega)):
 Rd T lo (w.setCell ⟨B,0,none⟩ a) B c e:=Rd.move h.1 g h.2.2.1 (fun h0 b f=>h.2.2.2 (by omega) b (by rw[<-d];exact f))
theorem below_drewN(B:Nat)(w:World)(n:Nat):Below B w (w.drewN n):=⟨rfl,rfl,rfl,Nat.le_refl _,fun _ _=>rfl⟩
theorem cH(B:Nat)(w:World):Below B w w.drew:=⟨rfl,rfl,rfl,Nat.le_refl _,fun _ _=>rfl⟩
theorem bF{P:Program}{f:FuncId}{args:Array Value}{w:World}{n:Nat}{v:Value}
 (h:Calls P f args (w.drewN n) fun e w'=>e=.returned v/\w.drewN n=w'):Calls P f args (w.drewN n) fun e a=>e=.returned v/\∃m,a=w.drewN m:=
 Calls.quiet_of_same (h.mono fun _ _⟨he,hm⟩=>⟨he,hm.symm⟩)
theorem iE{P:Program}{f:FuncId}{args:Array Value}{w:World}{v:Value}
 (h:Calls P f args w fun e w'=>e=.returned v/\w=w'):Calls P f args w fun e a=>e=.returned v/\a=w:=
 h.mono fun _ _⟨he,hm⟩=>⟨he,hm.symm⟩
set_option maxHeartbeats 400000 in
set_option maxRecDepth 20000 in
theorem gK(v:Value)(l:List Nat)(w:World)(i:aV w v l):
 Calls Tryz.prog 76 #[v] w fun e w'=>∃q,e=.returned q/\Own w.heap.size w' q l/\Below w.heap.size w w':=by
 have u:=Lib.hid i;obtain⟨p,cap,rfl,r,j,hp⟩:=i.form;have t:=Lib.hid i.len;have x:=fun(w:World)(a:Option Addr)(n c:Nat)=>Lib.run_eql_slice_nil (P:=Tryz.prog) w 57 5 a n c 0 0 Tryz.underlying57;cases p with
 |none=>
  obtain rfl:=j rfl;have k:l.length=0:=by omega
  obtain rfl:l=[]:=List.eq_nil_of_length_eq_zero k;clear i hp j;go_enter Tryz.func76,Tryz.ntmps76;go_wp2;go_ret;exact⟨_,rfl,aM _ _,Below.refl _ _⟩
 |some ad=>
  have d:=ky w w.heap.size 0 #[] (Nat.le_refl _) (Nat.zero_le _) rfl;have s:=Lib.hid d;have h:Below w.heap.size w (w.alloc (.cells #[] 5)):=(Below.refl _ _).alloc (Nat.le_refl _) _;have f:=Lib.hid h;clear r j hp i d h;go_enter Tryz.func76,Tryz.ntmps76;go_upto_region 3 with(fail)
  iterate 7 go_step
  refine aB rfl (.tmp 5) (.tmp 6) rfl w.heap.size _ [] rfl s.out _ l rfl (u.out.below f.out) (by have:=t.out;simpa using this) f.out.size ?_;intro v1 w1 b g _;rw[List.nil_append]at b;have o:=Lib.hid b;have m:=Lib.hid (f.out.trans g);clear b g;go_wp2;go_ret;exact⟨_,rfl,o.out,m.out⟩
set_option maxHeartbeats 400000 in
set_option maxRecDepth 20000 in
theorem fB(v:Value)(l:List Nat)(w:World)(g:aV w v l):
 Calls Tryz.prog 128 #[v] w fun e w'=>∃B,e=.returned (.pointer (some ⟨B,0,none⟩))/\Rd 217 (fun b=>w.heap.size<=b/\b<B) w' B l 0/\w.heap.size<=B/\Below w.heap.size w w':=by
 have m:=Lib.hid g;clear g;go_enter Tryz.func128,Tryz.ntmps128;go_wp2_with fail
 refine(gK _ l _ m.out).mono ?_;rintro e w1⟨v1,rfl,f,d⟩;have c:=Lib.hid f;have a:=Lib.hid d;clear f d;obtain⟨p,cap,rfl,i,j,hp⟩:=c.out.bz.form;clear i j hp;go_wp2;go_ret;refine⟨_,rfl,⟨_,heap_alloc_last _ _,c.out.bz.below ((Below.refl _ _).alloc (Nat.le_refl _) _),(fun h=>Nat.lt_irrefl _ h.2),fun _ b k=>?_⟩,a.out.size,a.out.alloc a.out.size _⟩;exact World.ownsRow.lt c.out.own b k
set_option maxHeartbeats 400000 in
set_option maxRecDepth 20000 in
theorem cx(lo:Nat->Prop)(B e:Nat)(l:List Nat)(w:World)(hR:Rd 217 lo w B l e):
 Calls Tryz.prog 181 #[.pointer (some ⟨B,0,none⟩)] w fun d w'=>d=.returned (.int .i64 (e:Int))/\w=w':=by
 obtain⟨s,a,c,-,-⟩:=hR;have b:=bI a;clear c a;go_enter Tryz.func181,Tryz.ntmps181;go_wp2;go_ret;exact⟨rfl,rfl⟩
theorem Ft(x:Nat)(a:x<256):bits .and .u8 (x:Int) 127=((x%128:Nat):Int):=by
 rw[show(127:Int)=((127:Nat):Int)from rfl,u8_and_nat x 127 a (by decide),nat_mask7]
theorem yz(x k:Nat):(x:Int)%128*2^(7*k)=((x%128*128^k:Nat):Int):=by
 rw[show(128:Nat)^k=2^(7*k)by rw[Nat.pow_mul],Int.natCast_mul,Int.natCast_pow];rfl
theorem Dp(acc x k:Nat)(b:k<=9)(c:acc<128^k)(d:k=9->x<=1):bits .or .u64 (acc:Int) (IntKind.u64.wrap ((x:Int)%128*2^(7*k)))=((acc+x%128*128^k:Nat):Int):=by
 have g:x%128*128^k<18446744073709551616:=by
  by_cases h:k=9
  ·subst h;have:=d rfl;have a:x%128<=1:=by omega
   have:=Nat.mul_le_mul_right (128^9) a;have e:128^9=9223372036854775808:=by decide
   omega
  ·have i:x%128*128^k<128^(k+1):=by
    rw[Nat.pow_succ,Nat.mul_comm];exact Nat.mul_lt_mul_of_pos_left (Nat.mod_lt _ (by decide)) (Nat.pow_pos (by decide))
   have f:128^(k+1)<=128^9:=Nat.pow_le_pow_right (by decide) (by omega);have e:128^9=9223372036854775808:=by decide
   omega
 have a:acc<18446744073709551616:=by
  have f:128^k<=128^9:=Nat.pow_le_pow_right (by decide) b;have e:128^9=9223372036854775808:=by decide
  omega
 rw[yz];have hw:IntKind.u64.wrap ((x%128*128^k:Nat):Int)=((x%128*128^k:Nat):Int):=by
  rw[show IntKind.u64.wrap ((x%128*128^k:Nat):Int)=((x%128*128^k:Nat):Int)%18446744073709551616 by simp[IntKind.wrap,IntKind.bits,IntKind.signed]];omega
 have hp:(128:Nat)^k=2^(7*k):=by rw[Nat.pow_mul]
 rw[hw,u64_or_nat _ _ a g,Nat.or_comm,nat_join (7*k) _ _ (by rw[hp];exact Nat.mul_mod_left _ _) (by rw[<-hp];exact c),Nat.add_comm]
theorem Fv(acc x k:Nat)(a:acc<128^k):acc+x%128*128^k<128^(k+1):=by
 have h:(x%128+1)*128^k<=128*128^k:=Nat.mul_le_mul_right _ (by omega);rw[Nat.add_mul]at h;rw[Nat.pow_succ];omega
theorem kY{n:Int}{k:Int}{p:Nat×Nat}{q:Nat×Nat}(h:p=q)(b:n=(q.1:Int))(a:k=(q.2:Int)):Ending.returned (.tuple #[.int .u64 n,.int .i64 k])=.returned (.tuple #[.int .u64 (p.1:Nat),.int .i64 (p.2:Nat)]):=by
 subst h;rw[b,a]
set_option maxHeartbeats 1600000 in
set_option maxRecDepth 20000 in
theorem dZ(v:Value)(l:List Nat)(w:World)(q:aV w v l):
 Calls Tryz.prog 182 #[v] w fun L w'=>L=.returned (.tuple #[.int .u64 ((aw.aN 0 l).1:Nat),.int .i64 ((aw.aN 0 l).2:Nat)])/\w=w':=by
 have N:=Lib.hid q;obtain⟨p,cap,rfl,s,F,hp⟩:=q.form;have M:=Lib.hid hp;have hlen:=q.len;have C:=s.1;have z:=s.2;clear q s F hp;have E:∃m,m=min l.length 10:=⟨_,rfl⟩
 obtain⟨m,hm⟩:=E;have I:m<=10:=by omega
 have H:m<=l.length:=by omega
 have t:m=10\/m=l.length:=by omega
 have P:=Lib.hid hm;have G:min (l.length:Int) 10=(m:Int):=by omega
 clear hm;go_enter Tryz.func182,Tryz.ntmps182;go_wp2;go_loop [4,13] (fun n i=>∃k acc:Nat,k<=m/\i=.int .i64 k/\n=.int .u64 acc/\acc<128^k/\aw.aN 0 l=aw.fin acc k (aw.aN k (l.drop k))) (fun _ i=>m-(intOf i).toNat)
 case atStart=>exact⟨0,0,by omega,rfl,rfl,by decide,by rw[aw.zy _ (aw.Cf _ _)];rfl⟩
 case round=>
  obtain⟨k,acc,O,rfl,rfl,d,c⟩:=hrel;have f:=Lib.hid c;have g:=Lib.hid d;clear c d;by_cases J:k<m
  ·have B:=N.out.getD k;obtain⟨b,off,rfl,D⟩:=M.out (by omega);have y:=D k (by omega);have A:=Lib.hid (List.drop_eq_getElem_cons (l:=l) (i:=k) (by omega));have o:l.getD k 0=l[k]'(by omega):=by simp[List.getElem?_eq_getElem (show k<l.length by omega)]
   rw[<-o]at A;clear D o;generalize l.getD k 0=x at y B A;have K:=Ft x B;have u:k<=9:=by omega
   have r:=Lib.hid (Dp acc x k u g.out);have a:Hid (aw.aN 0 l=aw.fin acc k (aw.aN k (x::l.drop (k+1)))):=by rw[<-A.out];exact f.out
   go_wp2
   ·go_ret2
    exact⟨kY (a.out.trans (aw.B4 _ _ _ _ ⟨by omega,by omega⟩)) rfl rfl,rfl⟩
   ·go_ret2
    have j:x=0:=by assumption
    subst j;exact⟨kY (a.out.trans (aw.uG _ _ _ (by omega) (by omega))) rfl rfl,rfl⟩
   ·go_ret2
    have e:IntKind.u64.wrap ((x:Int)%128*2^(7*k))=(x:Int)%128*9223372036854775808:=by
     obtain rfl:k=9:=by omega
     rw[show(2:Int)^(7*9)=9223372036854775808 by decide,show IntKind.u64.wrap ((x:Int)%128*9223372036854775808)=((x:Int)%128*9223372036854775808)%18446744073709551616 by simp[IntKind.wrap,IntKind.bits,IntKind.signed]];omega
    exact⟨kY (a.out.trans (aw.pK _ _ _ _ (by omega) (by omega) (by omega) (by omega))) (by rw[<-e,r.out (by omega),Nat.mod_eq_of_lt (by omega)]) (by show(10:Int)=((k+1:Nat):Int);omega),rfl⟩
   ·go_round
    case rel=>exact⟨k+1,_,by omega,by go_num,by rw[r.out (by omega)],Fv _ _ _ g.out,a.out.trans (aw.B3 _ _ _ _ (by omega) (by omega) (by omega))⟩
    case measure=>simp[intOf];omega
   ·go_ret2
    have j:x=0:=by assumption
    subst j;exact⟨kY (a.out.trans (aw.uG _ _ _ (by omega) (by omega))) rfl rfl,rfl⟩
   ·go_ret2
    have e:IntKind.u64.wrap ((x:Int)%128*2^(7*k))=IntKind.u64.wrap 0:=by
     obtain rfl:x=0:=by assumption
     congr 1
     simp
    exact⟨kY (a.out.trans (aw.pK _ _ _ _ (by omega) (by omega) (by omega) (by omega))) (by rw[<-e,r.out (by omega),Nat.mod_eq_of_lt (by omega)]) rfl,rfl⟩
   ·go_ret2
    exact⟨kY (a.out.trans (aw.pK _ _ _ _ (by omega) (by omega) (by omega) (by omega))) (by rw[r.out (by omega)];rw[Nat.mod_eq_of_lt (by omega)]) rfl,rfl⟩
  ·obtain rfl:k=m:=by omega
   have a:Hid (aw.aN 0 l=(0,0)):=by
    rw[f.out];rcases t with h|h
    ·exact aw.DJ _ _ _ (by omega)
    ·rw[List.drop_eq_nil_of_le (by omega)];exact aw.xP _ _
   go_wp2;go_ret2
   exact⟨kY a.out rfl rfl,rfl⟩
theorem js(k:Nat):(2:Nat)^(8*k)=256^k:=by rw[Nat.pow_mul]
theorem lM(x k:Nat):(x:Int)*2^(8*k)=((x*256^k:Nat):Int):=by
 rw[<-js k,Int.natCast_mul,Int.natCast_pow];rfl
theorem sg(x k c:Nat)(a:x<256)(b:k<c):x*256^k<256^c:=by
 have d:x*256^k<256^(k+1):=by
  rw[Nat.pow_succ,Nat.mul_comm];exact Nat.mul_lt_mul_of_pos_left a (Nat.pow_pos (by decide))
 exact Nat.lt_of_lt_of_le d (Nat.pow_le_pow_right (by decide) b)
theorem Dn(acc x k:Nat)(c:k<1)(a:acc<256^k)(b:x<256):bits .or .u8 (acc:Int) (IntKind.u8.wrap ((x:Int)*2^(8*k)))=((acc+x*256^k:Nat):Int):=by
 have e:x*256^k<256:=sg x k 1 b c;have d:acc<256:=Nat.lt_of_lt_of_le a (Nat.pow_le_pow_right (i:=k) (j:=1) (by decide:256>0) (by omega));rw[lM];have hw:IntKind.u8.wrap ((x*256^k:Nat):Int)=((x*256^k:Nat):Int):=by
  rw[show IntKind.u8.wrap ((x*256^k:Nat):Int)=((x*256^k:Nat):Int)%256 by simp[IntKind.wrap,IntKind.bits,IntKind.signed]];omega
 rw[hw,u8_or_nat _ _ d e,Nat.or_comm,nat_join (8*k) _ _ (by rw[js];exact Nat.mul_mod_left _ _) (by rw[js];exact a),Nat.add_comm]
theorem yX(l:List Nat)(k:Nat)(x:Nat)(d:k<1)(hl:k<l.length)(hs:∀y∈l,y<256)(c:x<256)(f:l.take (k+1)=l.take k++[x]):
 bits .or .u8 (aw.num (l.take k):Nat) (IntKind.u8.wrap ((x:Int)*2^(8*k)))=(aw.num (l.take (k+1)):Nat):=by
 have a:(l.take k).length=k:=by simp;omega
 have e:aw.num (l.take k)<256^k:=by
  have:=aw.jz (l.take k) (fun y b=>hs y (List.mem_of_mem_take b));rwa[a]at this
 rw[Dn _ x k d e c,f,aw.j3,a]
set_option maxHeartbeats 400000 in
set_option maxRecDepth 20000 in
theorem yo(lo:Nat->Prop)(B e:Nat)(l:List Nat)(w:World)(hR:Rd 217 lo w B l e)(he:e≠0):
 Calls Tryz.prog 180 #[.pointer (some ⟨B,0,none⟩)] w fun a w'=>a=.returned (.int .u8 0)/\w=w':=by
 have b:=Lib.hid hR;have h0:((e:Int)==0)=false:=by simp;omega
 have d:((e:Int)!=0)=true:=by simp;omega
 have c:¬(e:Int)=0:=by omega
 clear hR he;go_enter Tryz.func180,Tryz.ntmps180;go_wp2_with fail
 refine(cx lo B e l _ b.out).mono ?_;rintro a w'⟨rfl,rfl⟩;go_wp2_with fail
 go_ret;exact⟨rfl,rfl⟩
set_option maxHeartbeats 800000 in
set_option maxRecDepth 20000 in
theorem tv(lo:Nat->Prop)(B:Nat)(l:List Nat)(w:World)(hR:Rd 217 lo w B l 0)(hl:l.length<1):
 Calls Tryz.prog 180 #[.pointer (some ⟨B,0,none⟩)] w fun e w'=>e=.returned (.int .u8 0)/\Rd 217 lo w' B l 4/\w.grownBy w' (some B):=by
 have c:=Lib.hid hR;obtain⟨s,a,b,-,-⟩:=hR;obtain⟨p,cap,rfl,-,-,-⟩:=b.form;have f:=bc a;have d:=bI a;have hf:=cP a 1;clear b a;go_enter Tryz.func180,Tryz.ntmps180;go_wp2_with fail
 refine(cx lo B 0 l _ c.out).mono ?_;rintro e w'⟨rfl,rfl⟩;go_wp2_with fail
 go_quiet ((go_at_call 186;exact bF (rS _)))
 go_wp2;go_ret;exact⟨rfl,(c.out.below (below_drewN _ _ _)).fail 4,ak (aR (below_drewN _ _ _) _) (an _ _ _ _)⟩
set_option maxHeartbeats 1600000 in
set_option maxRecDepth 20000 in
theorem AH (lo : Nat → Prop) (B : Nat) (l : List Nat) (w : World) (hR : Rd 217 lo w B l 0) (hl : 1 ≤ l.length) :
    Calls Tryz.prog 180 #[.pointer (some ⟨B, 0, none⟩)] w fun e w' => e = .returned (.int .u8 (aw.num (l.take 1) : Nat)) ∧ Rd 217 lo w' B (l.drop 1) 0 ∧ w.grownBy w' (some B) := by
  have J := Lib.hid hR
  obtain ⟨s, r⟩ := hR
  have I := Lib.hid r
  have t := Lib.hid r.2.1
  obtain ⟨p, cap, rfl, u, H, hp⟩ := t.out.form
  obtain ⟨b, off, rfl, A⟩ := hp (by omega)
  have E := u.1
  have z := u.2
  have d := bc r.1
  clear r u H hp A
  go_enter Tryz.func180, Tryz.ntmps180
  go_wp2_with fail
  refine (cx lo B 0 l _ J.out).mono ?_
  rintro e w' ⟨rfl, rfl⟩
  go_wp2_with fail
  go_quiet ((go_at_call 186; exact bF (rS _)))
  go_wp2
  have f := Lib.hid (below_drewN w.heap.size w nq)
  have g := Lib.hid (I.out.below f.out)
  generalize w.drewN nq = w2 at f g ⊢
  clear d
  have d := bc g.out.1
  go_quiet ((go_at_call 186; exact bF (rS _)))
  have m := Lib.hid (f.out.trans (below_drewN w.heap.size w2 nq))
  have a := Lib.hid (g.out.below (below_drewN w2.heap.size w2 nq))
  generalize w2.drewN nq = w3 at m a ⊢
  clear d f g
  go_wp2
  have hlen := t.out.len
  go_loop [3, 26] (fun n i => ∃ k : Nat, k ≤ 1 ∧ i = .int .i64 k ∧ n = .int .u8 (aw.num (l.take k) : Nat)) (fun _ i => 1 - (intOf i).toNat)
  case atStart => exact ⟨0, by omega, rfl, rfl⟩
  case round =>
    obtain ⟨k, L, rfl, rfl⟩ := hrel
    by_cases v : k < 1
    · have y : w3.cell? ⟨b, off + k, none⟩ = some (.int .u8 (l.getD k 0 : Nat)) := by
        obtain ⟨K, F, he, -, -, hp⟩ := a.out.2.1.form
        obtain ⟨M, C, j, A⟩ := hp (by omega)
        simp only [Value.slice.injEq] at he
        obtain ⟨rfl, -, rfl⟩ := he
        simp only [Option.some.injEq, Addr.mk.injEq] at j
        obtain ⟨rfl, rfl, -⟩ := j
        exact A k (by omega)
      have D := t.out.getD k
      have G := Lib.hid (cT l k (by omega))
      generalize l.getD k 0 = x at y D G
      have q := Lib.hid (yX l k x v (by omega) t.out.small D G.out)
      have c := q.out
      rw [show IntKind.u8.wrap ((x : Int) * 2 ^ (8 * k)) = (x : Int) * 2 ^ (8 * k) % 256 by simp [IntKind.wrap, IntKind.bits, IntKind.signed]] at c
      have o := Lib.hid c
      clear c
      go_wp2
      go_round
      case rel => exact ⟨k + 1, by omega, by go_num, by first | rw [q.out] | rw [o.out]⟩
      case measure => simp [intOf]; omega
    · obtain rfl : k = 1 := by omega
      have d := bc a.out.1
      have hf := cP a.out.1 0
      go_wp2
      refine wp_region_still_tail 9 (by kernel_rfl) (by kernel_rfl) ?_
      simp only [List.take_succ_cons, List.take_zero, List.drop_succ_cons, List.drop_zero]
      iterate 5 still_step
      still_call (iE (rS _))
      repeat still_step
      refine wpStill_nil ?_
      go_wp2
      all_goals
        go_ret
        refine ⟨rfl, ?_, ak (aR m.out _) (ak (dF _ _) (an _ _ _ _))⟩
        refine (a.out.below (cH _ _)).move ?_ rfl
        try rw [← List.drop_one]
        first
          | exact (a.out.2.1.below (cH _ _)).drop 1 hl
          | (have hz : l.length = 1 := by omega
             rw [show l.drop 1 = [] from List.drop_eq_nil_of_le (by omega), hz]
             exact ⟨⟨_, _, rfl, by simp, (fun h => by simp at h), fun h => absurd h (by simp)⟩, by simp, by simp⟩)
theorem yq(lo:Nat->Prop)(B e:Nat)(l:List Nat)(w:World)(hR:Rd 217 lo w B l e):
 Calls Tryz.prog 180 #[.pointer (some ⟨B,0,none⟩)] w fun a w'=>a=.returned (.int .u8 ((aw.rdNum 1 l e).1:Nat))/\Rd 217 lo w' B (aw.rdNum 1 l e).2.1 (aw.rdNum 1 l e).2.2/\w.grownBy w' (some B):=by
 unfold aw.rdNum;by_cases he:e≠0
 ·rw[if_pos he];exact(yo lo B e l w hR he).mono fun a w'⟨c,b⟩=>by subst b;exact⟨c,hR,bW _ _⟩
 ·obtain rfl:e=0:=by omega
  rw[if_neg he];by_cases hl:l.length<1
  ·rw[if_pos hl];exact tv lo B l w hR hl
  ·rw[if_neg hl];exact AH lo B l w hR (by omega)
set_option maxHeartbeats 400000 in
set_option maxRecDepth 20000 in
theorem Ct(lo:Nat->Prop)(B e:Nat)(l:List Nat)(w:World)(hR:Rd 217 lo w B l e):
 Calls Tryz.prog 163 #[.pointer (some ⟨B,0,none⟩)] w fun c w'=>c=.returned (.int .u8 ((aw.rdNum 1 l e).1:Nat))/\Rd 217 lo w' B (aw.rdNum 1 l e).2.1 (aw.rdNum 1 l e).2.2/\w.grownBy w' (some B):=by
 have d:=Lib.hid hR;clear hR;go_enter Tryz.func163,Tryz.ntmps163;go_wp2_with fail
 refine(yq lo B e l _ d.out).mono ?_;rintro c w1⟨rfl,b,a⟩;have H1:=Lib.hid b;have f:=Lib.hid a;clear b a;go_wp2;go_ret;exact⟨rfl,H1.out,f.out⟩
theorem Bj(acc x k:Nat)(c:k<2)(a:acc<256^k)(b:x<256):bits .or .u16 (acc:Int) (IntKind.u16.wrap ((x:Int)*2^(8*k)))=((acc+x*256^k:Nat):Int):=by
 have e:x*256^k<65536:=sg x k 2 b c;have d:acc<65536:=Nat.lt_of_lt_of_le a (Nat.pow_le_pow_right (i:=k) (j:=2) (by decide:256>0) (by omega));rw[lM];have hw:IntKind.u16.wrap ((x*256^k:Nat):Int)=((x*256^k:Nat):Int):=by
  rw[show IntKind.u16.wrap ((x*256^k:Nat):Int)=((x*256^k:Nat):Int)%65536 by simp[IntKind.wrap,IntKind.bits,IntKind.signed]];omega
 rw[hw,u16_or_nat _ _ d e,Nat.or_comm,nat_join (8*k) _ _ (by rw[js];exact Nat.mul_mod_left _ _) (by rw[js];exact a),Nat.add_comm]
theorem wh(l:List Nat)(k:Nat)(x:Nat)(d:k<2)(hl:k<l.length)(hs:∀y∈l,y<256)(c:x<256)(f:l.take (k+1)=l.take k++[x]):
 bits .or .u16 (aw.num (l.take k):Nat) (IntKind.u16.wrap ((x:Int)*2^(8*k)))=(aw.num (l.take (k+1)):Nat):=by
 have a:(l.take k).length=k:=by simp;omega
 have e:aw.num (l.take k)<256^k:=by
  have:=aw.jz (l.take k) (fun y b=>hs y (List.mem_of_mem_take b));rwa[a]at this
 rw[Bj _ x k d e c,f,aw.j3,a]
set_option maxHeartbeats 400000 in
set_option maxRecDepth 20000 in
theorem vF(lo:Nat->Prop)(B e:Nat)(l:List Nat)(w:World)(hR:Rd 217 lo w B l e)(he:e≠0):
 Calls Tryz.prog 179 #[.pointer (some ⟨B,0,none⟩)] w fun a w'=>a=.returned (.int .u16 0)/\w=w':=by
 have b:=Lib.hid hR;have h0:((e:Int)==0)=false:=by simp;omega
 have d:((e:Int)!=0)=true:=by simp;omega
 have c:¬(e:Int)=0:=by omega
 clear hR he;go_enter Tryz.func179,Tryz.ntmps179;go_wp2_with fail
 refine(cx lo B e l _ b.out).mono ?_;rintro a w'⟨rfl,rfl⟩;go_wp2_with fail
 go_ret;exact⟨rfl,rfl⟩
set_option maxHeartbeats 800000 in
set_option maxRecDepth 20000 in
theorem rY(lo:Nat->Prop)(B:Nat)(l:List Nat)(w:World)(hR:Rd 217 lo w B l 0)(hl:l.length<2):
 Calls Tryz.prog 179 #[.pointer (some ⟨B,0,none⟩)] w fun e w'=>e=.returned (.int .u16 0)/\Rd 217 lo w' B l 4/\w.grownBy w' (some B):=by
 have c:=Lib.hid hR;obtain⟨s,a,b,-,-⟩:=hR;obtain⟨p,cap,rfl,-,-,-⟩:=b.form;have f:=bc a;have d:=bI a;have hf:=cP a 1;clear b a;go_enter Tryz.func179,Tryz.ntmps179;go_wp2_with fail
 refine(cx lo B 0 l _ c.out).mono ?_;rintro e w'⟨rfl,rfl⟩;go_wp2_with fail
 go_quiet ((go_at_call 155;exact bF (kr _)))
 go_wp2;go_ret;exact⟨rfl,(c.out.below (below_drewN _ _ _)).fail 4,ak (aR (below_drewN _ _ _) _) (an _ _ _ _)⟩
set_option maxHeartbeats 1600000 in
set_option maxRecDepth 20000 in
theorem yu (lo : Nat → Prop) (B : Nat) (l : List Nat) (w : World) (hR : Rd 217 lo w B l 0) (hl : 2 ≤ l.length) :
    Calls Tryz.prog 179 #[.pointer (some ⟨B, 0, none⟩)] w fun e w' => e = .returned (.int .u16 (aw.num (l.take 2) : Nat)) ∧ Rd 217 lo w' B (l.drop 2) 0 ∧ w.grownBy w' (some B) := by
  have J := Lib.hid hR
  obtain ⟨s, r⟩ := hR
  have I := Lib.hid r
  have t := Lib.hid r.2.1
  obtain ⟨p, cap, rfl, u, H, hp⟩ := t.out.form
  obtain ⟨b, off, rfl, A⟩ := hp (by omega)
  have E := u.1
  have z := u.2
  have d := bc r.1
  clear r u H hp A
  go_enter Tryz.func179, Tryz.ntmps179
  go_wp2_with fail
  refine (cx lo B 0 l _ J.out).mono ?_
  rintro e w' ⟨rfl, rfl⟩
  go_wp2_with fail
  go_quiet ((go_at_call 155; exact bF (kr _)))
  go_wp2
  have f := Lib.hid (below_drewN w.heap.size w nq)
  have g := Lib.hid (I.out.below f.out)
  generalize w.drewN nq = w2 at f g ⊢
  clear d
  have d := bc g.out.1
  go_quiet ((go_at_call 155; exact bF (kr _)))
  have m := Lib.hid (f.out.trans (below_drewN w.heap.size w2 nq))
  have a := Lib.hid (g.out.below (below_drewN w2.heap.size w2 nq))
  generalize w2.drewN nq = w3 at m a ⊢
  clear d f g
  go_wp2
  have hlen := t.out.len
  go_loop [3, 26] (fun n i => ∃ k : Nat, k ≤ 2 ∧ i = .int .i64 k ∧ n = .int .u16 (aw.num (l.take k) : Nat)) (fun _ i => 2 - (intOf i).toNat)
  case atStart => exact ⟨0, by omega, rfl, rfl⟩
  case round =>
    obtain ⟨k, L, rfl, rfl⟩ := hrel
    by_cases v : k < 2
    · have y : w3.cell? ⟨b, off + k, none⟩ = some (.int .u8 (l.getD k 0 : Nat)) := by
        obtain ⟨K, F, he, -, -, hp⟩ := a.out.2.1.form
        obtain ⟨M, C, j, A⟩ := hp (by omega)
        simp only [Value.slice.injEq] at he
        obtain ⟨rfl, -, rfl⟩ := he
        simp only [Option.some.injEq, Addr.mk.injEq] at j
        obtain ⟨rfl, rfl, -⟩ := j
        exact A k (by omega)
      have D := t.out.getD k
      have G := Lib.hid (cT l k (by omega))
      generalize l.getD k 0 = x at y D G
      have q := Lib.hid (wh l k x v (by omega) t.out.small D G.out)
      have c := q.out
      rw [show IntKind.u16.wrap ((x : Int) * 2 ^ (8 * k)) = (x : Int) * 2 ^ (8 * k) % 65536 by simp [IntKind.wrap, IntKind.bits, IntKind.signed]] at c
      have o := Lib.hid c
      clear c
      go_wp2
      go_round
      case rel => exact ⟨k + 1, by omega, by go_num, by first | rw [q.out] | rw [o.out]⟩
      case measure => simp [intOf]; omega
    · obtain rfl : k = 2 := by omega
      have d := bc a.out.1
      have hf := cP a.out.1 0
      go_wp2
      refine wp_region_still_tail 9 (by kernel_rfl) (by kernel_rfl) ?_
      simp only [List.take_succ_cons, List.take_zero, List.drop_succ_cons, List.drop_zero]
      iterate 5 still_step
      still_call (iE (kr _))
      repeat still_step
      refine wpStill_nil ?_
      go_wp2
      all_goals
        go_ret
        refine ⟨rfl, ?_, ak (aR m.out _) (ak (dF _ _) (an _ _ _ _))⟩
        refine (a.out.below (cH _ _)).move ?_ rfl
        try rw [← List.drop_one]
        first
          | exact (a.out.2.1.below (cH _ _)).drop 2 hl
          | (have hz : l.length = 2 := by omega
             rw [show l.drop 2 = [] from List.drop_eq_nil_of_le (by omega), hz]
             exact ⟨⟨_, _, rfl, by simp, (fun h => by simp at h), fun h => absurd h (by simp)⟩, by simp, by simp⟩)
theorem vG(lo:Nat->Prop)(B e:Nat)(l:List Nat)(w:World)(hR:Rd 217 lo w B l e):
 Calls Tryz.prog 179 #[.pointer (some ⟨B,0,none⟩)] w fun a w'=>a=.returned (.int .u16 ((aw.rdNum 2 l e).1:Nat))/\Rd 217 lo w' B (aw.rdNum 2 l e).2.1 (aw.rdNum 2 l e).2.2/\w.grownBy w' (some B):=by
 unfold aw.rdNum;by_cases he:e≠0
 ·rw[if_pos he];exact(vF lo B e l w hR he).mono fun a w'⟨c,b⟩=>by subst b;exact⟨c,hR,bW _ _⟩
 ·obtain rfl:e=0:=by omega
  rw[if_neg he];by_cases hl:l.length<2
  ·rw[if_pos hl];exact rY lo B l w hR hl
  ·rw[if_neg hl];exact yu lo B l w hR (by omega)
set_option maxHeartbeats 400000 in
set_option maxRecDepth 20000 in
theorem ya(lo:Nat->Prop)(B e:Nat)(l:List Nat)(w:World)(hR:Rd 217 lo w B l e):
 Calls Tryz.prog 162 #[.pointer (some ⟨B,0,none⟩)] w fun c w'=>c=.returned (.int .u16 ((aw.rdNum 2 l e).1:Nat))/\Rd 217 lo w' B (aw.rdNum 2 l e).2.1 (aw.rdNum 2 l e).2.2/\w.grownBy w' (some B):=by
 have d:=Lib.hid hR;clear hR;go_enter Tryz.func162,Tryz.ntmps162;go_wp2_with fail
 refine(vG lo B e l _ d.out).mono ?_;rintro c w1⟨rfl,b,a⟩;have H1:=Lib.hid b;have f:=Lib.hid a;clear b a;go_wp2;go_ret;exact⟨rfl,H1.out,f.out⟩
theorem Bi(acc x k:Nat)(c:k<4)(a:acc<256^k)(b:x<256):bits .or .u32 (acc:Int) (IntKind.u32.wrap ((x:Int)*2^(8*k)))=((acc+x*256^k:Nat):Int):=by
 have e:x*256^k<4294967296:=sg x k 4 b c;have d:acc<4294967296:=Nat.lt_of_lt_of_le a (Nat.pow_le_pow_right (i:=k) (j:=4) (by decide:256>0) (by omega));rw[lM];have hw:IntKind.u32.wrap ((x*256^k:Nat):Int)=((x*256^k:Nat):Int):=by
  rw[show IntKind.u32.wrap ((x*256^k:Nat):Int)=((x*256^k:Nat):Int)%4294967296 by simp[IntKind.wrap,IntKind.bits,IntKind.signed]];omega
 rw[hw,u32_or_nat _ _ d e,Nat.or_comm,nat_join (8*k) _ _ (by rw[js];exact Nat.mul_mod_left _ _) (by rw[js];exact a),Nat.add_comm]
theorem we(l:List Nat)(k:Nat)(x:Nat)(d:k<4)(hl:k<l.length)(hs:∀y∈l,y<256)(c:x<256)(f:l.take (k+1)=l.take k++[x]):
 bits .or .u32 (aw.num (l.take k):Nat) (IntKind.u32.wrap ((x:Int)*2^(8*k)))=(aw.num (l.take (k+1)):Nat):=by
 have a:(l.take k).length=k:=by simp;omega
 have e:aw.num (l.take k)<256^k:=by
  have:=aw.jz (l.take k) (fun y b=>hs y (List.mem_of_mem_take b));rwa[a]at this
 rw[Bi _ x k d e c,f,aw.j3,a]
set_option maxHeartbeats 400000 in
set_option maxRecDepth 20000 in
theorem vD(lo:Nat->Prop)(B e:Nat)(l:List Nat)(w:World)(hR:Rd 217 lo w B l e)(he:e≠0):
 Calls Tryz.prog 173 #[.pointer (some ⟨B,0,none⟩)] w fun a w'=>a=.returned (.int .u32 0)/\w=w':=by
 have b:=Lib.hid hR;have h0:((e:Int)==0)=false:=by simp;omega
 have d:((e:Int)!=0)=true:=by simp;omega
 have c:¬(e:Int)=0:=by omega
 clear hR he;go_enter Tryz.func173,Tryz.ntmps173;go_wp2_with fail
 refine(cx lo B e l _ b.out).mono ?_;rintro a w'⟨rfl,rfl⟩;go_wp2_with fail
 go_ret;exact⟨rfl,rfl⟩
set_option maxHeartbeats 800000 in
set_option maxRecDepth 20000 in
theorem rX(lo:Nat->Prop)(B:Nat)(l:List Nat)(w:World)(hR:Rd 217 lo w B l 0)(hl:l.length<4):
 Calls Tryz.prog 173 #[.pointer (some ⟨B,0,none⟩)] w fun e w'=>e=.returned (.int .u32 0)/\Rd 217 lo w' B l 4/\w.grownBy w' (some B):=by
 have c:=Lib.hid hR;obtain⟨s,a,b,-,-⟩:=hR;obtain⟨p,cap,rfl,-,-,-⟩:=b.form;have f:=bc a;have d:=bI a;have hf:=cP a 1;clear b a;go_enter Tryz.func173,Tryz.ntmps173;go_wp2_with fail
 refine(cx lo B 0 l _ c.out).mono ?_;rintro e w'⟨rfl,rfl⟩;go_wp2_with fail
 go_quiet ((go_at_call 157;exact bF (kq _)))
 go_wp2;go_ret;exact⟨rfl,(c.out.below (below_drewN _ _ _)).fail 4,ak (aR (below_drewN _ _ _) _) (an _ _ _ _)⟩
set_option maxHeartbeats 1600000 in
set_option maxRecDepth 20000 in
theorem yt (lo : Nat → Prop) (B : Nat) (l : List Nat) (w : World) (hR : Rd 217 lo w B l 0) (hl : 4 ≤ l.length) :
    Calls Tryz.prog 173 #[.pointer (some ⟨B, 0, none⟩)] w fun e w' => e = .returned (.int .u32 (aw.num (l.take 4) : Nat)) ∧ Rd 217 lo w' B (l.drop 4) 0 ∧ w.grownBy w' (some B) := by
  have J := Lib.hid hR
  obtain ⟨s, r⟩ := hR
  have I := Lib.hid r
  have t := Lib.hid r.2.1
  obtain ⟨p, cap, rfl, u, H, hp⟩ := t.out.form
  obtain ⟨b, off, rfl, A⟩ := hp (by omega)
  have E := u.1
  have z := u.2
  have d := bc r.1
  clear r u H hp A
  go_enter Tryz.func173, Tryz.ntmps173
  go_wp2_with fail
  refine (cx lo B 0 l _ J.out).mono ?_
  rintro e w' ⟨rfl, rfl⟩
  go_wp2_with fail
  go_quiet ((go_at_call 157; exact bF (kq _)))
  go_wp2
  have f := Lib.hid (below_drewN w.heap.size w nq)
  have g := Lib.hid (I.out.below f.out)
  generalize w.drewN nq = w2 at f g ⊢
  clear d
  have d := bc g.out.1
  go_quiet ((go_at_call 157; exact bF (kq _)))
  have m := Lib.hid (f.out.trans (below_drewN w.heap.size w2 nq))
  have a := Lib.hid (g.out.below (below_drewN w2.heap.size w2 nq))
  generalize w2.drewN nq = w3 at m a ⊢
  clear d f g
  go_wp2
  have hlen := t.out.len
  go_loop [3, 26] (fun n i => ∃ k : Nat, k ≤ 4 ∧ i = .int .i64 k ∧ n = .int .u32 (aw.num (l.take k) : Nat)) (fun _ i => 4 - (intOf i).toNat)
  case atStart => exact ⟨0, by omega, rfl, rfl⟩
  case round =>
    obtain ⟨k, L, rfl, rfl⟩ := hrel
    by_cases v : k < 4
    · have y : w3.cell? ⟨b, off + k, none⟩ = some (.int .u8 (l.getD k 0 : Nat)) := by
        obtain ⟨K, F, he, -, -, hp⟩ := a.out.2.1.form
        obtain ⟨M, C, j, A⟩ := hp (by omega)
        simp only [Value.slice.injEq] at he
        obtain ⟨rfl, -, rfl⟩ := he
        simp only [Option.some.injEq, Addr.mk.injEq] at j
        obtain ⟨rfl, rfl, -⟩ := j
        exact A k (by omega)
      have D := t.out.getD k
      have G := Lib.hid (cT l k (by omega))
      generalize l.getD k 0 = x at y D G
      have q := Lib.hid (we l k x v (by omega) t.out.small D G.out)
      have c := q.out
      rw [show IntKind.u32.wrap ((x : Int) * 2 ^ (8 * k)) = (x : Int) * 2 ^ (8 * k) % 4294967296 by simp [IntKind.wrap, IntKind.bits, IntKind.signed]] at c
      have o := Lib.hid c
      clear c
      go_wp2
      go_round
      case rel => exact ⟨k + 1, by omega, by go_num, by first | rw [q.out] | rw [o.out]⟩
      case measure => simp [intOf]; omega
    · obtain rfl : k = 4 := by omega
      have d := bc a.out.1
      have hf := cP a.out.1 0
      go_wp2
      refine wp_region_still_tail 9 (by kernel_rfl) (by kernel_rfl) ?_
      simp only [List.take_succ_cons, List.take_zero, List.drop_succ_cons, List.drop_zero]
      iterate 5 still_step
      still_call (iE (kq _))
      repeat still_step
      refine wpStill_nil ?_
      go_wp2
      all_goals
        go_ret
        refine ⟨rfl, ?_, ak (aR m.out _) (ak (dF _ _) (an _ _ _ _))⟩
        refine (a.out.below (cH _ _)).move ?_ rfl
        try rw [← List.drop_one]
        first
          | exact (a.out.2.1.below (cH _ _)).drop 4 hl
          | (have hz : l.length = 4 := by omega
             rw [show l.drop 4 = [] from List.drop_eq_nil_of_le (by omega), hz]
             exact ⟨⟨_, _, rfl, by simp, (fun h => by simp at h), fun h => absurd h (by simp)⟩, by simp, by simp⟩)
theorem vE(lo:Nat->Prop)(B e:Nat)(l:List Nat)(w:World)(hR:Rd 217 lo w B l e):
 Calls Tryz.prog 173 #[.pointer (some ⟨B,0,none⟩)] w fun a w'=>a=.returned (.int .u32 ((aw.rdNum 4 l e).1:Nat))/\Rd 217 lo w' B (aw.rdNum 4 l e).2.1 (aw.rdNum 4 l e).2.2/\w.grownBy w' (some B):=by
 unfold aw.rdNum;by_cases he:e≠0
 ·rw[if_pos he];exact(vD lo B e l w hR he).mono fun a w'⟨c,b⟩=>by subst b;exact⟨c,hR,bW _ _⟩
 ·obtain rfl:e=0:=by omega
  rw[if_neg he];by_cases hl:l.length<4
  ·rw[if_pos hl];exact rX lo B l w hR hl
  ·rw[if_neg hl];exact yt lo B l w hR (by omega)
set_option maxHeartbeats 400000 in
set_option maxRecDepth 20000 in
theorem fH(lo:Nat->Prop)(B e:Nat)(l:List Nat)(w:World)(hR:Rd 217 lo w B l e):
 Calls Tryz.prog 144 #[.pointer (some ⟨B,0,none⟩)] w fun c w'=>c=.returned (.int .u32 ((aw.rdNum 4 l e).1:Nat))/\Rd 217 lo w' B (aw.rdNum 4 l e).2.1 (aw.rdNum 4 l e).2.2/\w.grownBy w' (some B):=by
 have d:=Lib.hid hR;clear hR;go_enter Tryz.func144,Tryz.ntmps144;go_wp2_with fail
 refine(vE lo B e l _ d.out).mono ?_;rintro c w1⟨rfl,b,a⟩;have H1:=Lib.hid b;have f:=Lib.hid a;clear b a;go_wp2;go_ret;exact⟨rfl,H1.out,f.out⟩
theorem Bh(acc x k:Nat)(c:k<8)(a:acc<256^k)(b:x<256):bits .or .u64 (acc:Int) (IntKind.u64.wrap ((x:Int)*2^(8*k)))=((acc+x*256^k:Nat):Int):=by
 have e:x*256^k<18446744073709551616:=sg x k 8 b c;have d:acc<18446744073709551616:=Nat.lt_of_lt_of_le a (Nat.pow_le_pow_right (i:=k) (j:=8) (by decide:256>0) (by omega));rw[lM];have hw:IntKind.u64.wrap ((x*256^k:Nat):Int)=((x*256^k:Nat):Int):=by
  rw[show IntKind.u64.wrap ((x*256^k:Nat):Int)=((x*256^k:Nat):Int)%18446744073709551616 by simp[IntKind.wrap,IntKind.bits,IntKind.signed]];omega
 rw[hw,u64_or_nat _ _ d e,Nat.or_comm,nat_join (8*k) _ _ (by rw[js];exact Nat.mul_mod_left _ _) (by rw[js];exact a),Nat.add_comm]
theorem vZ(l:List Nat)(k:Nat)(x:Nat)(d:k<8)(hl:k<l.length)(hs:∀y∈l,y<256)(c:x<256)(f:l.take (k+1)=l.take k++[x]):
 bits .or .u64 (aw.num (l.take k):Nat) (IntKind.u64.wrap ((x:Int)*2^(8*k)))=(aw.num (l.take (k+1)):Nat):=by
 have a:(l.take k).length=k:=by simp;omega
 have e:aw.num (l.take k)<256^k:=by
  have:=aw.jz (l.take k) (fun y b=>hs y (List.mem_of_mem_take b));rwa[a]at this
 rw[Bh _ x k d e c,f,aw.j3,a]
set_option maxHeartbeats 400000 in
set_option maxRecDepth 20000 in
theorem vB(lo:Nat->Prop)(B e:Nat)(l:List Nat)(w:World)(hR:Rd 217 lo w B l e)(he:e≠0):
 Calls Tryz.prog 174 #[.pointer (some ⟨B,0,none⟩)] w fun a w'=>a=.returned (.int .u64 0)/\w=w':=by
 have b:=Lib.hid hR;have h0:((e:Int)==0)=false:=by simp;omega
 have d:((e:Int)!=0)=true:=by simp;omega
 have c:¬(e:Int)=0:=by omega
 clear hR he;go_enter Tryz.func174,Tryz.ntmps174;go_wp2_with fail
 refine(cx lo B e l _ b.out).mono ?_;rintro a w'⟨rfl,rfl⟩;go_wp2_with fail
 go_ret;exact⟨rfl,rfl⟩
set_option maxHeartbeats 800000 in
set_option maxRecDepth 20000 in
theorem rW(lo:Nat->Prop)(B:Nat)(l:List Nat)(w:World)(hR:Rd 217 lo w B l 0)(hl:l.length<8):
 Calls Tryz.prog 174 #[.pointer (some ⟨B,0,none⟩)] w fun e w'=>e=.returned (.int .u64 0)/\Rd 217 lo w' B l 4/\w.grownBy w' (some B):=by
 have c:=Lib.hid hR;obtain⟨s,a,b,-,-⟩:=hR;obtain⟨p,cap,rfl,-,-,-⟩:=b.form;have f:=bc a;have d:=bI a;have hf:=cP a 1;clear b a;go_enter Tryz.func174,Tryz.ntmps174;go_wp2_with fail
 refine(cx lo B 0 l _ c.out).mono ?_;rintro e w'⟨rfl,rfl⟩;go_wp2_with fail
 go_quiet ((go_at_call 156;exact bF (kp _)))
 go_wp2;go_ret;exact⟨rfl,(c.out.below (below_drewN _ _ _)).fail 4,ak (aR (below_drewN _ _ _) _) (an _ _ _ _)⟩
set_option maxHeartbeats 1600000 in
set_option maxRecDepth 20000 in
theorem yr (lo : Nat → Prop) (B : Nat) (l : List Nat) (w : World) (hR : Rd 217 lo w B l 0) (hl : 8 ≤ l.length) :
    Calls Tryz.prog 174 #[.pointer (some ⟨B, 0, none⟩)] w fun e w' => e = .returned (.int .u64 (aw.num (l.take 8) : Nat)) ∧ Rd 217 lo w' B (l.drop 8) 0 ∧ w.grownBy w' (some B) := by
  have J := Lib.hid hR
  obtain ⟨s, r⟩ := hR
  have I := Lib.hid r
  have t := Lib.hid r.2.1
  obtain ⟨p, cap, rfl, u, H, hp⟩ := t.out.form
  obtain ⟨b, off, rfl, A⟩ := hp (by omega)
  have E := u.1
  have z := u.2
  have d := bc r.1
  clear r u H hp A
  go_enter Tryz.func174, Tryz.ntmps174
  go_wp2_with fail
  refine (cx lo B 0 l _ J.out).mono ?_
  rintro e w' ⟨rfl, rfl⟩
  go_wp2_with fail
  go_quiet ((go_at_call 156; exact bF (kp _)))
  go_wp2
  have f := Lib.hid (below_drewN w.heap.size w nq)
  have g := Lib.hid (I.out.below f.out)
  generalize w.drewN nq = w2 at f g ⊢
  clear d
  have d := bc g.out.1
  go_quiet ((go_at_call 156; exact bF (kp _)))
  have m := Lib.hid (f.out.trans (below_drewN w.heap.size w2 nq))
  have a := Lib.hid (g.out.below (below_drewN w2.heap.size w2 nq))
  generalize w2.drewN nq = w3 at m a ⊢
  clear d f g
  go_wp2
  have hlen := t.out.len
  go_loop [3, 26] (fun n i => ∃ k : Nat, k ≤ 8 ∧ i = .int .i64 k ∧ n = .int .u64 (aw.num (l.take k) : Nat)) (fun _ i => 8 - (intOf i).toNat)
  case atStart => exact ⟨0, by omega, rfl, rfl⟩
  case round =>
    obtain ⟨k, L, rfl, rfl⟩ := hrel
    by_cases v : k < 8
    · have y : w3.cell? ⟨b, off + k, none⟩ = some (.int .u8 (l.getD k 0 : Nat)) := by
        obtain ⟨K, F, he, -, -, hp⟩ := a.out.2.1.form
        obtain ⟨M, C, j, A⟩ := hp (by omega)
        simp only [Value.slice.injEq] at he
        obtain ⟨rfl, -, rfl⟩ := he
        simp only [Option.some.injEq, Addr.mk.injEq] at j
        obtain ⟨rfl, rfl, -⟩ := j
        exact A k (by omega)
      have D := t.out.getD k
      have G := Lib.hid (cT l k (by omega))
      generalize l.getD k 0 = x at y D G
      have q := Lib.hid (vZ l k x v (by omega) t.out.small D G.out)
      have c := q.out
      rw [show IntKind.u64.wrap ((x : Int) * 2 ^ (8 * k)) = (x : Int) * 2 ^ (8 * k) % 18446744073709551616 by simp [IntKind.wrap, IntKind.bits, IntKind.signed]] at c
      have o := Lib.hid c
      clear c
      go_wp2
      go_round
      case rel => exact ⟨k + 1, by omega, by go_num, by first | rw [q.out] | rw [o.out]⟩
      case measure => simp [intOf]; omega
    · obtain rfl : k = 8 := by omega
      have d := bc a.out.1
      have hf := cP a.out.1 0
      go_wp2
      refine wp_region_still_tail 9 (by kernel_rfl) (by kernel_rfl) ?_
      simp only [List.take_succ_cons, List.take_zero, List.drop_succ_cons, List.drop_zero]
      iterate 5 still_step
      still_call (iE (kp _))
      repeat still_step
      refine wpStill_nil ?_
      go_wp2
      all_goals
        go_ret
        refine ⟨rfl, ?_, ak (aR m.out _) (ak (dF _ _) (an _ _ _ _))⟩
        refine (a.out.below (cH _ _)).move ?_ rfl
        try rw [← List.drop_one]
        first
          | exact (a.out.2.1.below (cH _ _)).drop 8 hl
          | (have hz : l.length = 8 := by omega
             rw [show l.drop 8 = [] from List.drop_eq_nil_of_le (by omega), hz]
             exact ⟨⟨_, _, rfl, by simp, (fun h => by simp at h), fun h => absurd h (by simp)⟩, by simp, by simp⟩)
theorem vC(lo:Nat->Prop)(B e:Nat)(l:List Nat)(w:World)(hR:Rd 217 lo w B l e):
 Calls Tryz.prog 174 #[.pointer (some ⟨B,0,none⟩)] w fun a w'=>a=.returned (.int .u64 ((aw.rdNum 8 l e).1:Nat))/\Rd 217 lo w' B (aw.rdNum 8 l e).2.1 (aw.rdNum 8 l e).2.2/\w.grownBy w' (some B):=by
 unfold aw.rdNum;by_cases he:e≠0
 ·rw[if_pos he];exact(vB lo B e l w hR he).mono fun a w'⟨c,b⟩=>by subst b;exact⟨c,hR,bW _ _⟩
 ·obtain rfl:e=0:=by omega
  rw[if_neg he];by_cases hl:l.length<8
  ·rw[if_pos hl];exact rW lo B l w hR hl
  ·rw[if_neg hl];exact yr lo B l w hR (by omega)
set_option maxHeartbeats 400000 in
set_option maxRecDepth 20000 in
theorem dH(lo:Nat->Prop)(B e:Nat)(l:List Nat)(w:World)(hR:Rd 217 lo w B l e):
 Calls Tryz.prog 145 #[.pointer (some ⟨B,0,none⟩)] w fun c w'=>c=.returned (.int .u64 ((aw.rdNum 8 l e).1:Nat))/\Rd 217 lo w' B (aw.rdNum 8 l e).2.1 (aw.rdNum 8 l e).2.2/\w.grownBy w' (some B):=by
 have d:=Lib.hid hR;clear hR;go_enter Tryz.func145,Tryz.ntmps145;go_wp2_with fail
 refine(vC lo B e l _ d.out).mono ?_;rintro c w1⟨rfl,b,a⟩;have H1:=Lib.hid b;have f:=Lib.hid a;clear b a;go_wp2;go_ret;exact⟨rfl,H1.out,f.out⟩
set_option maxHeartbeats 400000 in
set_option maxRecDepth 20000 in
theorem Fx(lo:Nat->Prop)(B e:Nat)(l:List Nat)(w:World)(hR:Rd 217 lo w B l e)(he:e≠0):
 Calls Tryz.prog 183 #[.pointer (some ⟨B,0,none⟩)] w fun a w'=>a=.returned (.int .u64 0)/\w=w':=by
 have b:=Lib.hid hR;have h0:((e:Int)==0)=false:=by simp;omega
 have d:((e:Int)!=0)=true:=by simp;omega
 have c:¬(e:Int)=0:=by omega
 clear hR he;go_enter Tryz.func183,Tryz.ntmps183;go_wp2_with fail
 refine(cx lo B e l _ b.out).mono ?_;rintro a w'⟨rfl,rfl⟩;go_wp2_with fail
 go_ret;exact⟨rfl,rfl⟩
set_option maxHeartbeats 800000 in
set_option maxRecDepth 20000 in
theorem DR(lo:Nat->Prop)(B:Nat)(l:List Nat)(w:World)(hR:Rd 217 lo w B l 0)(b:(aw.aN 0 l).2=0):
 Calls Tryz.prog 183 #[.pointer (some ⟨B,0,none⟩)] w fun e w'=>e=.returned (.int .u64 0)/\Rd 217 lo w' B l 4/\w.grownBy w' (some B):=by
 have c:=Lib.hid hR;obtain⟨s,a⟩:=hR;have i:=Lib.hid a;have d:=Lib.hid a.2.1;obtain⟨p,cap,rfl,-,-,-⟩:=d.out.form;have g:=bc a.1;have f:=bI a.1;have hf:=cP a.1 1;have h:=Lib.hid b;clear a b;go_enter Tryz.func183,Tryz.ntmps183;go_wp2_with fail
 refine(cx lo B 0 l _ c.out).mono ?_;rintro e w'⟨rfl,rfl⟩;go_wp2_with fail
 refine(dZ _ l _ d.out).mono ?_;rintro e w'⟨rfl,rfl⟩;rw[h.out];go_wp2_with fail
 go_ret;exact⟨rfl,c.out.fail 4,an _ _ _ _⟩
set_option maxHeartbeats 800000 in
set_option maxRecDepth 20000 in
theorem Gv (lo : Nat → Prop) (B : Nat) (l : List Nat) (w : World) (hR : Rd 217 lo w B l 0) (h : (aw.aN 0 l).2 ≠ 0) :
    Calls Tryz.prog 183 #[.pointer (some ⟨B, 0, none⟩)] w fun e w' => e = .returned (.int .u64 ((aw.aN 0 l).1 : Nat)) ∧ Rd 217 lo w' B (l.drop (aw.aN 0 l).2) 0 ∧ w.grownBy w' (some B) := by
  have x := Lib.hid hR
  obtain ⟨s, d⟩ := hR
  have o := Lib.hid d
  have j := Lib.hid d.2.1
  have a := aw.mr l 0
  have q := Lib.hid (dZ s l w j.out)
  generalize aw.aN 0 l = c at h a q ⊢
  obtain ⟨n, k⟩ := c
  have t : 0 < k := by simp at h; omega
  have g : k ≤ l.length := a
  obtain ⟨p, cap, rfl, f, r, hp⟩ := j.out.form
  obtain ⟨b, off, rfl, v⟩ := hp (by omega)
  have m := f.1
  have i := f.2
  have hlen := j.out.len
  have u := bc d.1
  have hf := cP d.1 0
  clear d h a f r hp v
  go_enter Tryz.func183, Tryz.ntmps183
  go_wp2_with fail
  refine (cx lo B 0 l _ x.out).mono ?_
  rintro e w' ⟨rfl, rfl⟩
  go_wp2_with fail
  refine q.out.mono ?_
  rintro e w' ⟨rfl, rfl⟩
  go_wp2_with fail
  all_goals
    go_ret
    refine ⟨rfl, ?_, an _ _ _ _⟩
    refine o.out.move ?_ rfl
    first
      | exact o.out.2.1.drop k g
      | (rw [show l.drop k = [] from List.drop_eq_nil_of_le (by omega)]
         exact fR _ _ _ _ (by omega) (by omega))
theorem Cs(lo:Nat->Prop)(B e:Nat)(l:List Nat)(w:World)(hR:Rd 217 lo w B l e):
 Calls Tryz.prog 183 #[.pointer (some ⟨B,0,none⟩)] w fun b w'=>b=.returned (.int .u64 ((aw.lS l e).1:Nat))/\Rd 217 lo w' B (aw.lS l e).2.1 (aw.lS l e).2.2/\w.grownBy w' (some B):=by
 unfold aw.lS;by_cases he:e≠0
 ·rw[if_pos he];exact(Fx lo B e l w hR he).mono fun b w'⟨d,c⟩=>by subst c;exact⟨d,hR,bW _ _⟩
 ·obtain rfl:e=0:=by omega
  rw[if_neg he];by_cases a:(aw.aN 0 l).2=0
  ·rw[if_pos a];exact DR lo B l w hR a
  ·rw[if_neg a];exact Gv lo B l w hR a
set_option maxHeartbeats 400000 in
set_option maxRecDepth 20000 in
theorem Cu(lo:Nat->Prop)(B e:Nat)(l:List Nat)(aW:Int)(w:World)(hR:Rd 217 lo w B l e)(he:e≠0):
 Calls Tryz.prog 164 #[.pointer (some ⟨B,0,none⟩),.int .i64 aW] w fun a w'=>a=.returned (.slice none 0 0)/\w=w':=by
 have b:=Lib.hid hR;have h0:((e:Int)==0)=false:=by simp;omega
 have d:((e:Int)!=0)=true:=by simp;omega
 have c:¬(e:Int)=0:=by omega
 clear hR he;go_enter Tryz.func164,Tryz.ntmps164;go_wp2_with fail
 refine(cx lo B e l _ b.out).mono ?_;rintro a w'⟨rfl,rfl⟩;go_wp2_with fail
 go_ret;exact⟨rfl,rfl⟩
set_option maxHeartbeats 800000 in
set_option maxRecDepth 20000 in
theorem zV(lo:Nat->Prop)(B:Nat)(l:List Nat)(aW:Int)(w:World)(hR:Rd 217 lo w B l 0)(i:(aw.aN 0 l).2=0):
 Calls Tryz.prog 164 #[.pointer (some ⟨B,0,none⟩),.int .i64 aW] w fun e w'=>e=.returned (.slice none 0 0)/\Rd 217 lo w' B l 4/\w.grownBy w' (some B):=by
 have b:=Lib.hid hR;obtain⟨s,a⟩:=hR;have q:=Lib.hid a;have c:=Lib.hid a.2.1;obtain⟨p,cap,rfl,d,f,-⟩:=c.out.form;have j:=d.1;have h:=d.2;have hlen:=c.out.len;have n:=bc a.1;have m:=bI a.1;have hf:=cP a.1 1;have k:=Lib.hid i;have g:cap=0\/0<cap:=by omega
 clear a i d;cases p with
 |none=>
  obtain rfl:=f rfl;clear f g;go_enter Tryz.func164,Tryz.ntmps164;go_wp2_with fail
  refine(cx lo B 0 l _ b.out).mono ?_;rintro e w'⟨rfl,rfl⟩;go_wp2_with fail
  refine(dZ _ l _ c.out).mono ?_;rintro e w'⟨rfl,rfl⟩;rw[k.out];go_wp2_with fail
  go_ret;exact⟨rfl,b.out.fail 4,an _ _ _ _⟩
 |some o=>
  clear f;go_enter Tryz.func164,Tryz.ntmps164;go_wp2_with fail
  refine(cx lo B 0 l _ b.out).mono ?_;rintro e w'⟨rfl,rfl⟩;go_wp2_with fail
  refine(dZ _ l _ c.out).mono ?_;rintro e w'⟨rfl,rfl⟩;rw[k.out];go_wp2_with fail
  go_ret;exact⟨rfl,b.out.fail 4,an _ _ _ _⟩
theorem aV.Hc{w:World}{b off cap:Nat}{l:List Nat}(h:aV w (.slice (some ⟨b,off,none⟩) l.length cap) l)(k n:Nat)(a:n<=l.length-k)(d:k<=l.length):aV w (.slice (some ⟨b,off+k,none⟩) n (cap-k)) ((l.drop k).take n):=by
 have c:=h.drop k d;have e:l.length-k=(l.drop k).length:=by simp
 rw[e]at c a;exact c.take n a
theorem aV.rest{w:World}{b off cap:Nat}{l:List Nat}(h:aV w (.slice (some ⟨b,off,none⟩) l.length cap) l)(k n:Nat)(a:n<=l.length-k)(d:k<=l.length):aV w (.slice (some ⟨b,off+k+n,none⟩) (l.length-k-n) (cap-k-n)) ((l.drop k).drop n):=by
 have c:=h.drop k d;have e:l.length-k=(l.drop k).length:=by simp
 rw[e]at c a⊢;exact c.drop n a
theorem xC{T:TypeId}{lo:Nat->Prop}{B e:Nat}{w:World}{s m u:Value}{l t:List Nat}(a:Cy T lo w B s l e)(hm:aV w m t)(b:m.ownBlock=s.ownBlock)(hl:t.length<=l.length:=by(simp only[List.length_take,List.length_drop,List.length_tail,List.length_nil];omega)):aV (w.setCell ⟨B,0,none⟩ u) m t:=
 hm.grown (an w B 0 u) (fun h0 he=>a.2.2.1 (a.2.2.2 (by omega) B (by rw[<-b,he])))
theorem oB{T:TypeId}{lo:Nat->Prop}{B e:Nat}{w w1:World}{s a v:Value}{l r t:List Nat}(d:Cy T lo w B s l e)(hR:aV w a r)(c:a.ownBlock=s.ownBlock)(hl:r.length<=l.length)
 (f:Own (w.setCell ⟨B,0,none⟩ a).heap.size w1 v t) (b:Below (w.setCell ⟨B,0,none⟩ a).heap.size (w.setCell ⟨B,0,none⟩ a) w1):Own w.heap.size w1 v t/\Rd T lo w1 B r e/\w.grownBy w1 (some B):=
 ⟨f.from (by simp[World.setCell]),(d.move hR c hl).below b,ak (an _ _ _ _) (aR b _)⟩
set_option maxHeartbeats 1600000 in
set_option maxRecDepth 20000 in
theorem zW(lo:Nat->Prop)(B:Nat)(l:List Nat)(aW:Int)(w:World)(hR:Rd 217 lo w B l 0)(h:(aw.aN 0 l).2≠0)(hm:aW<=9223372036854775807)(a:max aW 0<((aw.aN 0 l).1:Int)):
 Calls Tryz.prog 164 #[.pointer (some ⟨B,0,none⟩),.int .i64 aW] w fun e w'=>e=.returned (.slice none 0 0)/\Rd 217 lo w' B l 3/\w.grownBy w' (some B):=by
 have o:=Lib.hid hR;obtain⟨s,f⟩:=hR;have D:=Lib.hid f;have j:=Lib.hid f.2.1;have d:=aw.mr l 0;have q:=Lib.hid (dZ s l w j.out);generalize aw.aN 0 l=c at h d q a⊢;obtain⟨n,k⟩:=c;have u:0<k:=by simp at h;omega
 have t:k<=l.length:=d;obtain⟨M,C⟩:∃M:Nat,max aW 0=(M:Int):=⟨(max aW 0).toNat,by omega⟩
 have A:M<=9223372036854775807:=by omega
 have z:M<n:=by rw[C]at a;exact Int.ofNat_lt.1 a
 obtain⟨p,cap,rfl,g,r,hp⟩:=j.out.form;obtain⟨b,off,rfl,y⟩:=hp (by omega);have m:=g.1;have i:=g.2;have hlen:=j.out.len;have x:=bc f.1;have v:=bI f.1;have hf:=cP f.1 1;clear f h d g r hp y hm a;go_enter Tryz.func164,Tryz.ntmps164;go_wp2_with fail
 refine(cx lo B 0 l _ o.out).mono ?_;rintro e w'⟨rfl,rfl⟩;go_wp2_with fail
 refine q.out.mono ?_;rintro e w'⟨rfl,rfl⟩;go_wp2_with fail
 all_goals
  go_ret;exact⟨rfl,o.out.fail 3,an _ _ _ _⟩
set_option maxHeartbeats 1600000 in
set_option maxRecDepth 20000 in
theorem xc(lo:Nat->Prop)(B:Nat)(l:List Nat)(aW:Int)(w:World)(hR:Rd 217 lo w B l 0)(h:(aw.aN 0 l).2≠0)(hm:aW<=9223372036854775807)(a:¬max aW 0<((aw.aN 0 l).1:Int))(hs:l.length-(aw.aN 0 l).2<(aw.aN 0 l).1):
 Calls Tryz.prog 164 #[.pointer (some ⟨B,0,none⟩),.int .i64 aW] w fun e w'=>e=.returned (.slice none 0 0)/\Rd 217 lo w' B l 4/\w.grownBy w' (some B):=by
 have o:=Lib.hid hR;obtain⟨s,f⟩:=hR;have E:=Lib.hid f;have j:=Lib.hid f.2.1;have d:=aw.mr l 0;have q:=Lib.hid (dZ s l w j.out);generalize aw.aN 0 l=c at h d q a hs⊢;obtain⟨n,k⟩:=c;have v:0<k:=by simp at h;omega
 have u:k<=l.length:=d;obtain⟨M,D⟩:∃M:Nat,max aW 0=(M:Int):=⟨(max aW 0).toNat,by omega⟩
 have C:M<=9223372036854775807:=by omega
 have A:n<=M:=by rw[D]at a;exact Int.ofNat_le.1 (Int.not_lt.1 a)
 have r:l.length-k<n:=hs;obtain⟨p,cap,rfl,g,t,hp⟩:=j.out.form;obtain⟨b,off,rfl,z⟩:=hp (by omega);have m:=g.1;have i:=g.2;have hlen:=j.out.len;have y:=bc f.1;have x:=bI f.1;have hf:=cP f.1 1;clear f h d g t hp z hm a hs;go_enter Tryz.func164,Tryz.ntmps164;go_wp2_with fail
 refine(cx lo B 0 l _ o.out).mono ?_;rintro e w'⟨rfl,rfl⟩;go_wp2_with fail
 refine q.out.mono ?_;rintro e w'⟨rfl,rfl⟩;go_wp2_with fail
 all_goals
  go_ret;exact⟨rfl,o.out.fail 4,an _ _ _ _⟩
set_option maxHeartbeats 1600000 in
set_option maxRecDepth 20000 in
theorem DT(lo:Nat->Prop)(B:Nat)(l:List Nat)(aW:Int)(w:World)(hR:Rd 217 lo w B l 0)(D:(aw.aN 0 l).2≠0)(hm:aW<=9223372036854775807)(f:¬max aW 0<((aw.aN 0 l).1:Int))(hs:¬l.length-(aw.aN 0 l).2<(aw.aN 0 l).1):
 Calls Tryz.prog 164 #[.pointer (some ⟨B,0,none⟩),.int .i64 aW] w fun e w'=>∃v,e=.returned v/\Own w.heap.size w' v ((l.drop (aw.aN 0 l).2).take (aw.aN 0 l).1)/\Rd 217 lo w' B ((l.drop (aw.aN 0 l).2).drop (aw.aN 0 l).1) 0/\w.grownBy w' (some B):=by
 have F:=Lib.hid hR;obtain⟨s,x⟩:=hR;have y:=Lib.hid x;have t:=Lib.hid x.2.1;have q:=aw.mr l 0;have A:=Lib.hid (dZ s l w t.out);generalize aw.aN 0 l=c at D q A f hs⊢;obtain⟨n,k⟩:=c;have J:0<k:=by simp at D;omega
 have r:k<=l.length:=q;obtain⟨M,P⟩:∃M:Nat,max aW 0=(M:Int):=⟨(max aW 0).toNat,by omega⟩
 have O:M<=9223372036854775807:=by omega
 have N:n<=M:=by rw[P]at f;exact Int.ofNat_le.1 (Int.not_lt.1 f)
 have o:n<=l.length-k:=by simp at hs;exact hs
 obtain⟨p,cap,rfl,C,I,hp⟩:=t.out.form;obtain⟨b,off,rfl,L⟩:=hp (by omega);have H:=C.1;have E:=C.2;have hlen:=t.out.len;have K:=bc x.1;have hf:=cP x.1 0;clear x D q C I hp L hm f hs;have m:(cap=k/\l.length=k/\n=0)\/(cap=k+n/\0<n/\l.length=k+n)\/k+n<cap:=by omega
 rcases m with⟨rfl,hl,rfl⟩|⟨rfl,h0,hl⟩|hw
 ·have z:=Lib.hid hl;clear hl;go_enter Tryz.func164,Tryz.ntmps164;go_wp2_with fail
  refine(cx lo B 0 l _ F.out).mono ?_;rintro e w'⟨rfl,rfl⟩;go_wp2_with fail
  refine A.out.mono ?_;rintro e w'⟨rfl,rfl⟩;go_wp2_with fail
  have a:aV w (.slice (some ⟨b,off,none⟩) 0 0) ((l.drop cap).drop 0):=by
   rw[show l.drop cap=[]from List.drop_eq_nil_of_le (by have:=z.out;omega)];exact fR _ _ _ _ rfl (by omega)
  have d:=Lib.hid a;clear a;have j:aV (w.setCell ⟨B,0,none⟩ (.slice (some ⟨b,off,none⟩) 0 0)) (.slice (some ⟨b,off,none⟩) 0 0) ((l.drop cap).take 0):=fR _ _ _ _ rfl (by omega);refine(gK _ _ _ j).mono ?_;rintro e w1⟨v1,rfl,h,g⟩;have i:=Lib.hid (oB y.out d.out rfl (by simp only[List.length_drop];omega) h g);clear h g j;go_wp2_with fail
  go_ret;exact⟨_,rfl,i.out⟩
 ·have z:=Lib.hid hl;clear hl;go_enter Tryz.func164,Tryz.ntmps164;go_wp2_with fail
  refine(cx lo B 0 l _ F.out).mono ?_;rintro e w'⟨rfl,rfl⟩;go_wp2_with fail
  refine A.out.mono ?_;rintro e w'⟨rfl,rfl⟩;go_wp2_with fail
  have a:aV w (.slice (some ⟨b,off+k,none⟩) (l.length-k-n) 0) ((l.drop k).drop n):=by
   rw[List.drop_drop,show l.drop (k+n)=[]from List.drop_eq_nil_of_le (by have:=z.out;omega)];exact fR _ _ _ _ (by have:=z.out;omega) (by omega)
  have d:=Lib.hid a;clear a;have hm:=t.out.Hc k n o r;rw[Nat.add_sub_cancel_left]at hm;have G:=Lib.hid (xC (u:=.slice (some ⟨b,off+k,none⟩) (l.length-k-n) 0) y.out hm rfl);clear hm;refine(gK _ _ _ G.out).mono ?_;rintro e w1⟨v1,rfl,h,g⟩;have i:=Lib.hid (oB y.out d.out rfl (by simp only[List.length_drop];omega) h g);clear h g;go_wp2_with fail
  go_ret;exact⟨_,rfl,i.out⟩
 ·go_enter Tryz.func164,Tryz.ntmps164;go_wp2_with fail
  refine(cx lo B 0 l _ F.out).mono ?_;rintro e w'⟨rfl,rfl⟩;go_wp2_with fail
  refine A.out.mono ?_;rintro e w'⟨rfl,rfl⟩;go_wp2_with fail
  have d:=Lib.hid (t.out.rest k n o r);have G:=Lib.hid (xC (u:=.slice (some ⟨b,off+k+n,none⟩) (l.length-k-n) (cap-k-n)) y.out (t.out.Hc k n o r) rfl);refine(gK _ _ _ G.out).mono ?_;rintro e w1⟨v1,rfl,h,g⟩;have i:=Lib.hid (oB y.out d.out rfl (by simp only[List.length_drop];omega) h g);clear h g;go_wp2_with fail
  go_ret;exact⟨_,rfl,i.out⟩
theorem qa(lo:Nat->Prop)(B e:Nat)(l:List Nat)(aW:Int)(w:World)(hR:Rd 217 lo w B l e)(hm:aW<=9223372036854775807):
 Calls Tryz.prog 164 #[.pointer (some ⟨B,0,none⟩),.int .i64 aW] w fun d w'=>∃v,d=.returned v/\Own w.heap.size w' v (aw.dT aW l e).1/\Rd 217 lo w' B (aw.dT aW l e).2.1 (aw.dT aW l e).2.2/\w.grownBy w' (some B):=by
 unfold aw.dT;by_cases he:e≠0
 ·rw[if_pos he];exact(Cu lo B e l aW w hR he).mono fun d w'⟨b,a⟩=>by subst a;exact⟨_,b,aM _ _,hR,bW _ _⟩
 ·obtain rfl:e=0:=by omega
  rw[if_neg he];by_cases c:(aw.aN 0 l).2=0
  ·rw[if_pos c];exact(zV lo B l aW w hR c).mono fun d w'⟨b,a⟩=>⟨_,b,aM _ _,a⟩
  ·rw[if_neg c];by_cases hl:max aW 0<((aw.aN 0 l).1:Int)
   ·rw[if_pos hl];exact(zW lo B l aW w hR c hm hl).mono fun d w'⟨b,a⟩=>⟨_,b,aM _ _,a⟩
   ·rw[if_neg hl];by_cases hs:l.length-(aw.aN 0 l).2<(aw.aN 0 l).1
    ·rw[if_pos hs];exact(xc lo B l aW w hR c hm hl hs).mono fun d w'⟨b,a⟩=>⟨_,b,aM _ _,a⟩
    ·rw[if_neg hs];exact DT lo B l aW w hR c hm hl hs
end Go.Proofs.YtbpodmallknhfaaGreat
