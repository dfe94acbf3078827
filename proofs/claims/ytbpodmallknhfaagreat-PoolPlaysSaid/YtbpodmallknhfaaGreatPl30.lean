/- Parts of a proof. Conditions: as each row says. -/
import Derived.Test.YtbpodmallknhfaaGreatPl07
import Derived.Test.YtbpodmallknhfaaGreatPl29
import Derived.Test.YtbpodmallknhfaaGreatPl24
import Derived.Test.YtbpodmallknhfaaGreatPl14
import Derived.BigQuiet
namespace Go.Proofs.YtbpodmallknhfaaGreat
open Go.RowKit
def jr(B b a L:Nat)(i:Nat):Prop:=DS B b a i\/i=L
abbrev CF(k:Wl.Kn)(B a c:Nat)(pl wa:Value)(dn:Bool):Array Value:=#[.int .u64 (k.start:Int),.int .u64 (k.ag:Int),.int .u64 (k.dS:Int),.int .u32 (k.an:Int),.pointer (some ⟨B,0,none⟩),.int .i64 (a:Int),.int .i64 (c:Int),pl,wa,.bool dn]
def aR(w:World)(L:Nat)(k:Wl.Kn)(B a c:Nat)(pl wa:Value)(dn:Bool):Prop:=w.heap[L]?=some (.cells (CF k B a c pl wa dn) 122 (0,0))
section
variable{w w':World}{L B a c:Nat}{k:Wl.Kn}{pl wa:Value}{dn:Bool}
theorem aR.cell(h:aR w L k B a c pl wa dn)(i:Nat){v:Value}(b:(CF k B a c pl wa dn)[i]?=some v):w.cell? ⟨L,i,none⟩=some v:=ah h i b
theorem aR.drew(h:aR w L k B a c pl wa dn)(n:Nat):aR (w.drewN n) L k B a c pl wa dn:=h
theorem aR.lt(h:aR w L k B a c pl wa dn):L<w.heap.size:=GN h
theorem aR.below(h:aR w L k B a c pl wa dn)(b:Below w.heap.size w w'):aR w' L k B a c pl wa dn:=(b.block L h.lt).trans h
theorem aR.aj{T:Nat->Prop}(h:aR w L k B a c pl wa dn)(b:Touch T w w')(d:¬T L):aR w' L k B a c pl wa dn:=b.row h d
theorem gO(h:aR w L k B a c pl wa dn):Calls Tryz.prog 62 #[.pointer (some ⟨L,0,none⟩)] w fun e w'=>e=.returned (.bool false)/\w=w':=by
 have c4:=h.cell 4 (v:=.pointer (some ⟨B,0,none⟩)) rfl;clear h;go_enter Tryz.func62,Tryz.ntmps62;go_wp2;go_ret;exact⟨rfl,rfl⟩
theorem mL(h:aR w L k B a c pl wa false):Calls Tryz.prog 55 #[.pointer (some ⟨L,0,none⟩)] w fun e w'=>e=.returned (.int .i64 0)/\w=w':=by
 have b:=gO h;have d:=h.cell 9 (v:=.bool false) rfl;clear h;go_enter Tryz.func55,Tryz.ntmps55;go_wp2_with (go_at_call 62;refine b.mono ?_;rintro e w'⟨rfl,rfl⟩)
 go_ret;exact⟨rfl,rfl⟩
theorem gN(h:aR w L k B a c pl wa false)(x:Nat):Calls Tryz.prog 90 #[.pointer (some ⟨L,0,none⟩),.int .i64 (x:Int)] w fun e w'=>
 e=.returned (.int .i64 (x:Int))/\aR w' L k B a c pl wa (decide (x≠0))/\Touch (·=L) w w':=by
 have l:=h.cell 9 (v:=.bool false) rfl;have f9:=aC h 9;obtain⟨z,hz⟩:∃z,decide (x≠0)=z:=⟨_,rfl⟩
 have b:aR (w.setCell ⟨L,9,none⟩ (.bool z)) L k B a c pl wa z:=aN (i:=9) h (.bool z);have d:Touch (·=L) w (w.setCell ⟨L,9,none⟩ (.bool z)):=Touch.set (S:=(·=L)) (a:=w) L 9 (.bool z) rfl;have f:((x:Int)!=0)=z:=by rw[<-hz,Bool.eq_iff_iff];simp
 rw[hz];have g:=GD b;have j:=GD d;clear hz h b d;go_enter Tryz.func90,Tryz.ntmps90;go_wp2;go_ret;exact⟨rfl,g.out,j.out⟩
theorem ma(h:aR w L k B a c pl wa false):Calls Tryz.prog 90 #[.pointer (some ⟨L,0,none⟩),.int .i64 0] w fun e w'=>
 e=.returned (.int .i64 0)/\aR w' L k B a c pl wa false/\Touch (·=L) w w':=gN h 0
theorem gl(h:aR w L k B a c pl wa dn)(b:c<=8192):Calls Tryz.prog 87 #[.pointer (some ⟨L,0,none⟩)] w fun e w'=>e=.returned (.int .u64 ((2*c:Nat):Int))/\w=w':=by
 have g:=h.cell 6 (v:=.int .i64 (c:Int)) rfl;have f:=Hv (c:Int) (by omega);have d:IntKind.u64.wrap (2*(c:Int))=((2*c:Nat):Int):=by rw[Hv _ (by omega)];omega
 clear h;generalize((2*c:Nat):Int)=z at*
 go_enter Tryz.func87,Tryz.ntmps87;go_wp2;go_ret;exact⟨rfl,rfl⟩
theorem sj(h:aR w L k B a c pl wa dn):Calls Tryz.prog 44 #[.pointer (some ⟨L,0,none⟩)] w fun e w'=>e=.returned (.int .u64 (k.start:Int))/\w=w':=by
 have b:=gO h;have c0:=h.cell 0 (v:=.int .u64 (k.start:Int)) rfl;clear h;go_enter Tryz.func44,Tryz.ntmps44;go_wp2_with (go_at_call 62;refine b.mono ?_;rintro e w'⟨rfl,rfl⟩)
 go_ret;exact⟨rfl,rfl⟩
theorem kB(h:aR w L k B a c pl wa dn):Calls Tryz.prog 77 #[.pointer (some ⟨L,0,none⟩)] w fun e w'=>e=.returned (.int .u64 (k.ag:Int))/\w=w':=by
 have b:=gO h;have c0:=h.cell 1 (v:=.int .u64 (k.ag:Int)) rfl;clear h;go_enter Tryz.func77,Tryz.ntmps77;go_wp2_with (go_at_call 62;refine b.mono ?_;rintro e w'⟨rfl,rfl⟩)
 go_ret;exact⟨rfl,rfl⟩
theorem jZ{p:Option Addr}{n cap:Nat}(h:aR w L k B a c pl (.slice p n cap) dn)(hs:k.ag+n<18446744073709551616):Calls Tryz.prog 35 #[.pointer (some ⟨L,0,none⟩)] w fun e w'=>e=.returned (.int .u64 ((k.ag+n:Nat):Int))/\∃q,w'=w.drewN q:=by
 have b:=gO h;have c1:=h.cell 1 (v:=.int .u64 (k.ag:Int)) rfl;have g:=h.cell 8 (v:=.slice p n cap) rfl;have f:=Hv (n:Int) (by omega);have d:IntKind.u64.wrap ((k.ag:Int)+(n:Int))=((k.ag+n:Nat):Int):=by rw[Hv _ (by omega)];omega
 clear h hs;generalize((k.ag+n:Nat):Int)=z at*
 go_enter Tryz.func35,Tryz.ntmps35;go_wp2_with (go_at_call 62;refine b.mono ?_;rintro e w'⟨rfl,rfl⟩)
 go_quiet (fail)
 go_wp2;go_ret;exact⟨rfl,_,rfl⟩
theorem vP{P:Program}{f:FuncId}{args:Array Value}{w:World}{n:Nat}{v:Value}(h:Calls P f args (w.drewN n) fun e w'=>e=.returned v/\∃q,w'=(w.drewN n).drewN q):Calls P f args (w.drewN n) fun e a=>e=.returned v/\∃m,a=w.drewN m:=
 h.mono fun _ _⟨he,q,b⟩=>⟨he,n+q,by rw[b];exact World.drewN_drewN _ _ _⟩
theorem uj{p:Option Addr}{n cap:Nat}(h:aR w L k B a c pl (.slice p n cap) dn)(hs:k.ag+n<=(k.start/52+2*c)*52)(g:k.start<=1000000000000000)(b:c<=8192):Calls Tryz.prog 57 #[.pointer (some ⟨L,0,none⟩)] w fun e w'=>e=.returned (.int .i64 (((k.start/52+2*c)*52-(k.ag+n):Nat):Int))/\∃q,w'=w.drewN q:=by
 have d:=gO h;have he:=fun q=>jZ (h.drew q) (by omega);have f:=fun q=>gl (h.drew q) b;have c0:=h.cell 0 (v:=.int .u64 (k.start:Int)) rfl;have r:IntKind.u64.wrap ((k.start:Int)/52)=((k.start/52:Nat):Int):=by rw[Hv _ (by omega)];omega
 have o:IntKind.u64.wrap (((k.start/52:Nat):Int)+((2*c:Nat):Int))=((k.start/52+2*c:Nat):Int):=by rw[Hv _ (by omega)];omega
 have m:IntKind.u64.wrap (((k.start/52+2*c:Nat):Int)*52)=(((k.start/52+2*c)*52:Nat):Int):=by rw[Hv _ (by omega)];omega
 have l:IntKind.u64.wrap ((((k.start/52+2*c)*52:Nat):Int)-((k.ag+n:Nat):Int))=(((k.start/52+2*c)*52-(k.ag+n):Nat):Int):=by rw[Hv _ (by omega)];omega
 have j:=GW (((k.start/52+2*c)*52-(k.ag+n):Nat):Int) (by omega);have i:=IA (((k.start/52+2*c)*52-(k.ag+n):Nat):Int) (by omega);clear h hs g b;generalize(((k.start/52+2*c)*52-(k.ag+n):Nat):Int)=z5 at*
 generalize(((k.start/52+2*c)*52:Nat):Int)=z3 at*
 generalize((k.start/52+2*c:Nat):Int)=z2 at*
 generalize((k.start/52:Nat):Int)=z1 at*
 generalize((2*c:Nat):Int)=zc at*
 generalize((k.ag+n:Nat):Int)=ze at*
 go_enter Tryz.func57,Tryz.ntmps57;go_wp2_with (go_at_call 62;refine d.mono ?_;rintro e w'⟨rfl,rfl⟩)
 go_quiet (first|(go_at_call 87;exact dA (f _))|(go_at_call 35;exact vP (he _)))
 go_wp2;go_ret;exact⟨rfl,_,rfl⟩
theorem uQ{g n r:Nat}(h:g/n=r)(a:r<4294967296):IntKind.u64.wrap ((g:Int)/(n:Int))=(r:Int)/\(r:Int)%4294967296=(r:Int):=by
 have h0:(g:Int)/(n:Int)=(r:Int):=by rw[<-h];rfl
 rw[h0];exact⟨Hv _ (by omega),by omega⟩
theorem sk(h:aR w L k B a c pl wa dn)(g:Nat)(f:1<=c)(j:c<=8192)(d:g/(2*c)<4294967296):Calls Tryz.prog 161 #[.pointer (some ⟨L,0,none⟩),.int .u64 (g:Int)] w fun e w'=>e=.returned (.int .u32 ((g/(2*c):Nat):Int))/\w=w':=by
 have i:=gl h j;obtain⟨N,l⟩:∃N,2*c=N:=⟨_,rfl⟩
 rw[l]at i d⊢;have m:¬(N:Int)=0:=by omega
 have n:((N:Int)==0)=false:=by rw[G6];exact m
 obtain⟨r,b⟩:∃r,g/N=r:=⟨_,rfl⟩
 obtain⟨p,o⟩:=uQ b (by rw[<-b];exact d);rw[b];clear h d j f l b;generalize(r:Int)=z at*
 generalize(N:Int)=zc at*
 go_enter Tryz.func161,Tryz.ntmps161;go_wp2_with (go_at_call 87;refine i.mono ?_;rintro e w'⟨rfl,rfl⟩)
 go_ret;exact⟨rfl,rfl⟩
theorem sC{a m n g:Nat}(h:g%n=m)(b:a<=65536)(hm:m<16384):(g:Int)%(n:Int)=(m:Int)/\IntKind.u64.wrap ((m:Int).tdiv 2)=((m/2:Nat):Int)/\wrap64 ((a:Int)+2)=((a+2:Nat):Int)/\wrap64 ((m/2:Nat):Int)=((m/2:Nat):Int)/\wrap64 (((a+2:Nat):Int)+((m/2:Nat):Int))=((a+2+m/2:Nat):Int):=by
 have h0:(g:Int)%(n:Int)=(m:Int):=by rw[<-h];rfl
 refine⟨h0,?_,?_,?_,?_⟩
 ·rw[IntWalk.u64_quo _ _ (by omega)];rfl
 ·rw[IA _ (by omega)];omega
 ·rw[IA _ (by omega)]
 ·rw[IA _ (by omega)];omega
set_option maxHeartbeats 800000 in
theorem jd(h:aR w L k B a c pl wa dn)(g:Nat)(d:1<=c)(i:c<=8192)(j:a<=65536):Calls Tryz.prog 98 #[.pointer (some ⟨L,0,none⟩),.int .u64 (g:Int)] w fun e w'=>e=.returned (.int .i64 ((a+2+g%(2*c)/2:Nat):Int))/\∃q,w'=w.drewN q:=by
 have f:=fun q=>gl (h.drew q) i;have c5:=h.cell 5 (v:=.int .i64 (a:Int)) rfl;obtain⟨N,l⟩:∃N,2*c=N:=⟨_,rfl⟩
 have hm:g%N<N:=Nat.mod_lt _ (by omega);have o:¬(N:Int)=0:=by omega
 have s:((N:Int)==0)=false:=by rw[G6];exact o
 obtain⟨m,b⟩:∃m,g%N=m:=⟨_,rfl⟩
 obtain⟨u,t,r,p,n⟩:=sC (a:=a) b j (by omega);rw[l]at f⊢;rw[b];clear h hm i j d l b;generalize((a+2+m/2:Nat):Int)=z1 at*
 generalize((a+2:Nat):Int)=z2 at*
 generalize((m/2:Nat):Int)=z3 at*
 generalize(m:Int)=z4 at*
 generalize(N:Int)=zc at*
 go_enter Tryz.func98,Tryz.ntmps98;go_wp2_with fail
 go_quiet ((go_at_call 87;exact dA (f _)))
 go_wp2;go_ret;exact⟨lx n,_,rfl⟩
end
def pC(L:Nat)(pl wa:Value)(i:Nat):Prop:=i=L\/pl.ownBlock=some i\/wa.ownBlock=some i
structure mK(w:World)(L B:Nat)(s:Wl.S)(pl wa:Value):Prop where
 ex:Wl.Ex s
 log:aR w L (Wl.kn s) B s.at_ s.count pl wa false
 Ez:QO 0 w pl (Wl.places s)
 CO:Own 0 w wa (Wl.waits s)
 ED:pl.ownBlock≠some L
 Ff:wa.ownBlock≠some L
 apart:∀i,pl.ownBlock=some i->wa.ownBlock≠some i
def jW(U V:Nat->Prop)(w:World)(B L:Nat)(d:Dk.ak)(s:Wl.S):Prop:=∃b a pl wa,mK w L B s pl wa/\V=pC L pl wa/\bc w B b a d/\U=DS B b a/\(∀i,U i->¬V i)/\∃said,said<=s.stop/\Wl.Dv s said d
theorem Own.bq{base:Nat}{w w':World}{v:Value}{l:List Nat}{T:Nat->Prop}(h:Own base w v l)(b:Touch T w w')(hs:∀i,v.ownBlock=some i->¬T i):Own base w' v l:=by
 refine⟨⟨h.own.1,?_⟩,h.small,h.len⟩;rcases h.own.2 with e|⟨g,cap,cur,a,d,c,r⟩
 ·exact GJ e
 ·exact GL ⟨g,cap,cur,a,d,b.row c (hs g (by rw[a];rfl)),r⟩
theorem Own.Bp{base:Nat}{w:World}{v:Value}{l:List Nat}(h:Own base w v l):∀i,v.ownBlock=some i->i<w.heap.size:=by
 intro i a;rcases h.own.2 with⟨b,-⟩|⟨g,cap,cur,b,d,c,r⟩
 ·rw[b]at a;cases a
 ·rw[b]at a;simp only[Value.ownBlock,GO]at a;rw[<-a];exact GN c
section
variable{U V T:Nat->Prop}{w w':World}{B L:Nat}{d:Dk.ak}{s:Wl.S}{pl wa:Value}
theorem mK.bq(h:mK w L B s pl wa)(a:Touch T w w')(hs:∀i,pC L pl wa i->¬T i):mK w' L B s pl wa:=
 ⟨h.ex,h.log.aj a (hs L (GJ rfl)),h.Ez.aj a (fun g b=>hs g (GL (GJ b))),h.CO.bq a (fun g b=>hs g (GL (GL b))),h.ED,h.Ff,h.apart⟩
theorem mK.lt(h:mK w L B s pl wa):∀i,pC L pl wa i->i<w.heap.size:=by
 rintro i(rfl|a|a)
 ·exact h.log.lt
 ·exact h.Ez.lt i a
 ·exact h.CO.Bp i a
theorem mK.below(h:mK w L B s pl wa)(b:Below w.heap.size w w'):mK w' L B s pl wa:=
 h.bq (T:=fun i=>w.heap.size<=i) (.ez b fun _ _ h=>h) fun i a=>by have:=h.lt i a;omega
theorem dO(h:jW U V w B L d s)(b:Touch T w w')(hs:∀i,cr U V i->¬T i):jW U V w' B L d s:=by
 obtain⟨e,c,pl,wa,k,rfl,j,rfl,g,f⟩:=h;exact⟨e,c,pl,wa,k.bq b (fun i a=>hs i (GL a)),rfl,j.bq b (fun i a=>hs i (GJ a)),rfl,g,f⟩
theorem dG(h:jW U V w B L d s):∀i,cr U V i->i<w.heap.size:=by
 obtain⟨f,e,pl,wa,c,rfl,b,rfl,j,g⟩:=h;rintro i(a|a)
 ·exact b.lt i a
 ·exact c.lt i a
theorem C8(h:jW U V w B L d s):m7 U w B d:=by
 obtain⟨b,a,pl,wa,g,rfl,c,rfl,f,e⟩:=h;exact⟨b,a,c,rfl⟩
theorem so{base:Nat}{v:Value}{l:List Nat}(h:Own base w v l):∃p cap,v=.slice p l.length cap:=by
 obtain⟨p,cap,a,-⟩:=h.aP.form;exact⟨p,cap,a⟩
theorem mK.end_(h:mK w L B s pl wa):s.ag+(Wl.waits s).length=s.stop:=by
 have b:=Wl.eT h.ex.aI;have a:=h.ex.aI.high;omega
end
end Go.Proofs.YtbpodmallknhfaaGreat
