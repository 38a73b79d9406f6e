import Derived.Test.YtabhkakomececaaGreatProg
import Derived.WalkKit
import Derived.WalkSpells
import Derived.WalkLawsBesides
import Derived.Lib.Hide
import Derived.Deep.QuietTactic
import Derived.BigQuiet
import Derived.Deep.LoopGhost
import Derived.Deep.RegionHeld3
import Derived.Deep.RegionWith
import Derived.Deep.DeepMust
import Derived.Lib.Bytes
import Derived.Maps.AppendAt
import Derived.OpenShut
import Derived.Deep.MidRow
import Derived.Laws.BytesArg
import GoSem.Op.String
import Derived.Deep.Slices
import Derived.ProofKit
set_option linter.all false
set_option maxRecDepth 100000
set_option maxHeartbeats 4000000
namespace Go.Proofs.YtabhkakomececaaGreat
open Go.RowKit Go.Lib
section
variable {R:Ending→World→Prop} {w:World}
theorem retB{a b:Bool}(h:R (.returned (.bool a)) w)(e:a=b):R (.returned (.bool b)) w:=e▸h
end
@[simp] theorem intOf_int (k:IntKind) (n:Int):intOf (.int k n)=n:=rfl
theorem wf64{n:Int}(h:(Lit.int .i64 n).wf=true):-9223372036854775808≤n∧n≤9223372036854775807:=by
 simp only[Lit.wf,Bool.and_eq_true,decide_eq_true_eq]at h;exact⟨Int.le_trans (by decide) h.1,Int.le_trans h.2 (by decide)⟩
theorem grown_step{W w':World}{o:Obj}{row:Option Nat}(h:(W.alloc o).grownBy w' row):W.grownBy w' row where
os:=h.os
tape:=h.tape
output:=h.output
size:=Nat.le_trans (by simp) h.size
block k hk hr:=(h.block k (by simp;omega) hr).trans (Below.heap_alloc W o k hk)
theorem grown_below{W w':World}{row:Option Nat}{base:Nat}(h:W.grownBy w' row)(hb:base≤W.heap.size)(hr:∀k,row=some k→base≤k):Below base W w' :=
⟨h.os,h.tape,h.output,h.size,fun k hk=>h.block k (by omega) (fun e=>by have:=hr k e.symm;omega)⟩
theorem app1{P:Program}{ops:Array Oper}{rest:List Oper}{o:Oper}{a:Act}{Q:Exit→Act→World→Prop}(W:World)(u:Value)(e:TypeId)(hgd:o.guard=none)(s x:Operand)(t:TypeId)
  (ho:o.op=.call { callee:=.builtin .append,args:=#[s,x],argTypes:=#[t,t] })
  (base:Nat) (i:TypeInfo) (z:Value) (bytes:Nat) (ht:P.underlying t=some (.slice e)) (hi:P.info? e=some i) (hz:i.zero=some z) (hsize:i.size=1) (hby:i.bytes=bytes) (hzs:z.cells.size=1)
  (v:Value) (n:Nat) (xs:List Value) (hs:a.eval s=v) (hown:W.ownsRow base e 1 v n xs) (hx:a.eval x=.slice (some ⟨W.heap.size,0,none⟩) 1 1) (h1:u.oneCell'=true)
  (h63:n+1≤maxLen) (hbytes:(n+1)*bytes≤140737488355328) (hbase:base≤W.heap.size)
  (h:∀v' w',w'.ownsRow base e 1 v' (n+1) (xs++[u])→W.grownBy w' v.ownBlock→Below base W w'→wpList P ops Q rest (a.put o.dst v') w') :
  wpList P ops Q (o::rest) a (W.alloc (.cells #[u] e)):=by
 refine wpList_append_own _ hgd s x t ho base e i z 1 bytes ht hi hz hsize hby hzs (by decide) v n xs hs (hown.alloc _) ⟨W.heap.size,0,none⟩ 1 1 [u] hx rfl (cell_one_new _ _ _)
  (fun y hy=>by simp at hy;subst hy;exact h1) h63 hbytes (by simp;omega) ?_
 intro v' w' hw' hg _;have hg':=grown_step hg;exact h v' w' hw' hg' (grown_below hg' hbase (fun k hk=>(hown.lt k hk).1))
def RdAt(w:World)(v:Value)(size:Nat)(xs:List Value):Prop :=
∃(A:Option Addr) (n c:Nat),v=.slice A n c∧xs.length=n*size∧n≤c∧(0<xs.length→∃g o,A=some ⟨g,o,none⟩∧g<w.heap.size∧∀j u,xs[j]?=some u→w.cell? ⟨g,o+j,none⟩=some u)
theorem RdAt.of_own{w:World}{base:Nat}{e:TypeId}{size n:Nat}{v:Value}{xs:List Value}(h:w.ownsRow base e size v n xs):RdAt w v size xs:=by
 obtain⟨hl,⟨rfl,rfl⟩|⟨g,cap,cur,rfl,hb,hg,hn,hm,hc,ht⟩⟩:=h
 ·exact⟨none,0,0,rfl,hl,Nat.le_refl _,fun h=>absurd h (by omega)⟩
 ·refine⟨_,n,cap,rfl,hl,hn,fun _=>⟨g,0,rfl,?_,fun j u hj=>?_⟩⟩
  ·rcases Nat.lt_or_ge g w.heap.size with h|h
   ·exact h
   ·rw [Array.getElem?_eq_none h]at hg;cases hg
  ·have:=World.ownsRow.cells (w:=w) (base:=base) (e:=e) (size:=size) (n:=n) (xs:=xs) ⟨hl,.inr ⟨g,cap,cur,rfl,hb,hg,hn,hm,hc,ht⟩⟩ (g:=g) rfl j u hj
   have e1:(⟨g,0,none⟩:Addr).add j=⟨g,0+j,none⟩:=by unfold Addr.add;split<;>simp_all
   rw [e1]at this;exact this
theorem RdAt.below{w w':World}{v:Value}{size:Nat}{xs:List Value}(h:RdAt w v size xs)(hb:Below w.heap.size w w'):RdAt w' v size xs:=by
 obtain⟨A,n,c,rfl,hl,hn,hr⟩:=h;refine⟨A,n,c,rfl,hl,hn,fun h0=>?_⟩;obtain⟨g,o,rfl,hg,hc⟩:=hr h0;exact⟨g,o,rfl,Nat.lt_of_lt_of_le hg hb.size,fun j u hj=>by rw [hb.cell (p:=⟨g,o+j,none⟩) hg];exact hc j u hj⟩
theorem cells_new(W:World)(us:Array Value)(t:TypeId):∀j u,us.toList[j]?=some u→(W.alloc (.cells us t)).cell? ((⟨W.heap.size,0,none⟩:Addr).add j)=some u:=by
 intro j u hj;have e1:(⟨W.heap.size,0,none⟩:Addr).add j=⟨W.heap.size,j,none⟩:=by unfold Addr.add;split<;>simp_all
 rw [e1,World.cell?_alloc_new,←Array.getElem?_toList,hj]
theorem appK{P:Program}{ops:Array Oper}{rest:List Oper}{o:Oper}{a:Act}{Q:Exit→Act→World→Prop}(W:World)(us:Array Value)(k:Nat)(e:TypeId)(hgd:o.guard=none)(s x:Operand)(t:TypeId)
  (ho:o.op=.call { callee:=.builtin .append,args:=#[s,x],argTypes:=#[t,t] })
  (base:Nat) (i:TypeInfo) (z:Value) (bytes:Nat) (ht:P.underlying t=some (.slice e)) (hi:P.info? e=some i) (hz:i.zero=some z) (hsize:i.size=k) (hby:i.bytes=bytes) (hzs:z.cells.size=k) (hk:0<k) (hus:us.size=k)
  (v:Value) (n:Nat) (xs:List Value) (hs:a.eval s=v) (hown:W.ownsRow base e k v n xs) (b:Nat) (hx:a.eval x=.slice (some ⟨b,0,none⟩) 1 1) (hbb:b=W.heap.size) (h1:∀u∈us.toList,u.oneCell'=true)
  (h63:n+1≤maxLen) (hbytes:(n+1)*bytes≤140737488355328) (hbase:base≤W.heap.size)
  (h:∀v' w',w'.ownsRow base e k v' (n+1) (xs++us.toList)→W.grownBy w' v.ownBlock→Below base W w'→wpList P ops Q rest (a.put o.dst v') w') :
  wpList P ops Q (o::rest) a (W.alloc (.cells us e)):=by
 subst hbb
 refine wpList_append_own _ hgd s x t ho base e i z k bytes ht hi hz hsize hby hzs hk v n xs hs (hown.alloc _) ⟨W.heap.size,0,none⟩ 1 1 us.toList hx (by simp [hus]) (cells_new _ _ _)
  h1 h63 hbytes (by simp;omega) ?_
 intro v' w' hw' hg _;have hg':=grown_step hg;exact h v' w' hw' hg' (grown_below hg' hbase (fun k hk=>(hown.lt k hk).1))
theorem own_at{w:World}{base:Nat}{e:TypeId}{size n:Nat}{v:Value}{xs:List Value}(h:w.ownsRow base e size v n xs)(hn:0<n) :
  ∃g cap,v=.slice (some ⟨g,0,none⟩) n cap∧base≤g∧g<w.heap.size∧n≤cap∧∀j,j<n*size→w.cell? ⟨g,j,none⟩=xs[j]?:=by
 have h0:=h;obtain⟨hl,⟨rfl,rfl⟩|⟨g,cap,cur,rfl,hb,hg,hnc,hm,hc,ht⟩⟩:=h
 ·omega
 ·refine⟨g,cap,rfl,hb,?_,hnc,fun j hj=>World.ownsRow.cellAt h0 j hj⟩
  rcases Nat.lt_or_ge g w.heap.size with h|h
  ·exact h
  ·rw [Array.getElem?_eq_none h]at hg;cases hg
theorem own_below{B:Nat}{e:TypeId}{k:Nat}{v:Value}{n:Nat}{xs:List Value}{w w':World}(h:w.ownsRow B e k v n xs)(hb:Below w.heap.size w w'):w'.ownsRow B e k v n xs :=
h.kept ⟨hb.os,hb.tape,hb.output,hb.size,fun j hj _=>hb.block j hj⟩ (row:=none) (by cases hv:v.ownBlock<;>simp)
theorem own_nil{w:World}{base:Nat}{e:TypeId}{size:Nat}{v:Value}{xs:List Value}(h:w.ownsRow base e size v 0 xs):(v=.slice none 0 0∨∃g c,v=.slice (some ⟨g,0,none⟩) 0 c)∧xs=[]:=by
 obtain⟨hl,⟨rfl,-⟩|⟨g,cap,cur,rfl,hb,hg,hnc,hm,hc,ht⟩⟩:=h
 ·exact⟨.inl rfl,List.eq_nil_of_length_eq_zero (by omega)⟩
 ·exact⟨.inr ⟨g,cap,rfl⟩,List.eq_nil_of_length_eq_zero (by omega)⟩
theorem own_mono{w:World}{base base' size n:Nat}{e:TypeId}{v:Value}{xs:List Value}(h:w.ownsRow base e size v n xs)(hb:base'≤base):w.ownsRow base' e size v n xs:=by
 obtain⟨hl,h|⟨g,cap,cur,h1,h2,h3⟩⟩:=h
 ·exact⟨hl,.inl h⟩
 ·exact⟨hl,.inr ⟨g,cap,cur,h1,Nat.le_trans hb h2,h3⟩⟩
theorem hp_sat{w:World}{p:Nat}{cs:Array Value}{t:TypeId}(h:w.heap[p]?=some (.cells cs t))(o:Nat)(v:Value):(w.setCell ⟨p,o,none⟩ v).heap[p]?=some (.cells (cs.setIfInBounds o v) t):=by
 simp [World.setCell,Array.getElem?_modify,h]
theorem hp_sne{w:World}{q o k:Nat}{v:Value}(h:k≠q):(w.setCell ⟨q,o,none⟩ v).heap[k]?=w.heap[k]?:=Below.heap_setCell _ ⟨q,o,none⟩ v k h
theorem hp_lt{V:World}{b:Nat}{o:Obj}(h:V.heap[b]?=some o):b<V.heap.size:=(Array.getElem?_eq_some_iff.1 h).1
theorem hp_set{w V:World}{o:Option Nat}{a:Nat}(g:w.grownBy V o)(ha:w.heap.size≤a∨o=some a)(i:Nat)(v:Value):w.grownBy (V.setCell ⟨a,i,none⟩ v) o :=
have m:=(Below.refl a V).setCell (p:=⟨a,i,none⟩) (Nat.le_refl _) v
⟨m.os.trans g.os,m.tape.trans g.tape,m.output.trans g.output,Nat.le_trans g.size m.size,fun k hk hn=>(hp_sne (by
 rintro rfl
 rcases ha with h|h
 ·omega
 ·exact hn h.symm)).trans (g.block k hk hn)⟩
def stL(w:World)(B:Nat):List (Nat×Value)→World
| []=>w
| x::l=>stL (w.setCell ⟨B,x.1,none⟩ x.2) B l
def stA(c:Array Value):List (Nat×Value)→Array Value
| []=>c
| x::l=>stA (c.setIfInBounds x.1 x.2) l
theorem stL_ne{B k:Nat}(h:k≠B):∀(l:List (Nat×Value)){w:World},(stL w B l).heap[k]?=w.heap[k]?
| [],_=>rfl
| _::l,_=>(stL_ne h l).trans (hp_sne h)
theorem stL_at{B:Nat}{t:TypeId}:∀(l:List (Nat×Value)){w:World}{c:Array Value},w.heap[B]?=some (.cells c t)→(stL w B l).heap[B]?=some (.cells (stA c l) t)
| [],_,_,h=>h
| x::l,_,_,h=>stL_at l (hp_sat h x.1 x.2)
theorem stL_gr{w:World}{o:Option Nat}{a:Nat}(ha:w.heap.size≤a∨o=some a):∀(l:List (Nat×Value)){V:World},w.grownBy V o→w.grownBy (stL V a l) o
| [],_,g=>g
| x::l,_,g=>stL_gr ha l (hp_set g ha x.1 x.2)
theorem stL_size{B:Nat}:∀(l:List (Nat×Value)){w:World},(stL w B l).heap.size=w.heap.size
| [],_=>rfl
| _::l,_=>(stL_size l).trans (by simp [World.setCell])
structure Hp(o:Option Nat)(w V:World)(l:List (Nat×Obj)):Prop where
gr:w.grownBy V o
at_:∀x∈l,V.heap[x.1]?=some x.2
lo:∀x∈l,w.heap.size≤x.1∨o=some x.1
dj:l.Pairwise (fun x y=>x.1≠y.1)
variable {o:Option Nat} {w V W:World} {l:List (Nat×Obj)}
theorem hp_setl{R:Nat×Obj→Nat×Obj→Prop}{x y:Nat×Obj}(e:∀z,(R x z↔R y z)∧(R z x↔R z y)):∀{l:List (Nat×Obj)}{j:Nat},l[j]?=some x→l.Pairwise R→(l.set j y).Pairwise R
| [],_,h,_=>by simp at h
| a::l,0,h,p=>by
 obtain rfl:a=x:=by simpa using h
 have p:=List.pairwise_cons.1 p;exact List.pairwise_cons.2 ⟨fun z hz=>(e z).1.1 (p.1 z hz),p.2⟩
| a::l,j+1,h,p=>by
 have p:=List.pairwise_cons.1 p;refine List.pairwise_cons.2 ⟨fun z hz=>?_,hp_setl e (by simpa using h) p.2⟩;rcases List.mem_or_eq_of_mem_set hz with hz|rfl
 ·exact p.1 z hz
 ·exact(e a).2.1 (p.1 x (List.mem_of_getElem? (by simpa using h)))
structure Gr(S:Nat→Prop)(w V:World):Prop where
os:V.os=w.os
tape:V.tape=w.tape
output:V.output=w.output
size:w.heap.size≤V.heap.size
block:∀k,k<w.heap.size→¬S k→V.heap[k]?=w.heap[k]?
theorem Gr.rfl'(S:Nat→Prop)(w:World):Gr S w w:=⟨rfl,rfl,rfl,Nat.le_refl _,fun _ _ _=>rfl⟩
theorem Gr.trans{S T:Nat→Prop}{w V W:World}(g:Gr S w V)(h:Gr T V W)(hs:∀k,T k→S k∨w.heap.size≤k):Gr S w W :=
⟨h.os.trans g.os,h.tape.trans g.tape,h.output.trans g.output,Nat.le_trans g.size h.size,fun k hk hn=>(h.block k (Nat.lt_of_lt_of_le hk g.size) fun t=>by rcases hs k t with e|e;exact hn e;omega).trans (g.block k hk hn)⟩
theorem Gr.bl{S:Nat→Prop}{w V W:World}(g:Gr S w V)(m:Below V.heap.size V W):Gr S w W :=
g.trans (T:=fun _=>False) ⟨m.os,m.tape,m.output,m.size,fun k hk _=>m.block k hk⟩ fun _ h=>h.elim
theorem Gr.below{S:Nat→Prop}{w V:World}{b:Nat}(g:Gr S w V)(h:∀k,S k→b≤k)(hb:b≤w.heap.size):Below b w V:=⟨g.os,g.tape,g.output,g.size,fun k hk=>g.block k (by omega) fun e=>by have:=h k e;omega⟩
theorem Gr.of{w V:World}{B:Nat}(g:w.grownBy V (some B)):Gr (fun k=>k=B) w V:=⟨g.os,g.tape,g.output,g.size,fun k hk hn=>g.block k hk fun e=>hn (Option.some.inj e)⟩
theorem Gr.ofRow{w V:World}{v:Value}(g:w.grownBy V v.ownBlock):Gr (fun k=>v.ownBlock=some k) w V:=⟨g.os,g.tape,g.output,g.size,fun k hk hn=>g.block k hk fun e=>hn e.symm⟩
structure Fm(S:Type) where
Inv:World→S→Prop
Fr:S→Nat→Prop
keep:∀{V W:World} {s:S},Inv V s→V.heap.size≤W.heap.size→(∀k,Fr s k→W.heap[k]?=V.heap[k]?)→Inv W s
lt:∀{V:World} {s:S} {k:Nat},Inv V s→Fr s k→k<V.heap.size
structure Hq{S:Type}(F:Fm S)(s0 s:S)(w V:World)(l:List (Nat×Obj)):Prop where
inv:F.Inv V s
gr:Gr (F.Fr s0) w V
sub:∀k,F.Fr s k→F.Fr s0 k∨w.heap.size≤k
at_:∀x∈l,V.heap[x.1]?=some x.2
lo:∀x∈l,w.heap.size≤x.1∧¬F.Fr s x.1
dj:l.Pairwise (fun x y=>x.1≠y.1)
section
variable {S:Type} {F:Fm S} {s0 s s':S} {w V W:World} {l:List (Nat×Obj)}
theorem Hq.nil(h:F.Inv w s):Hq F s s w w []:=⟨h,.rfl' _ _,fun _ e=>.inl e,by simp,by simp,.nil⟩
theorem Hq.bl(h:Hq F s0 s w V l)(m:Below V.heap.size V W):Hq F s0 s w W l :=
⟨F.keep h.inv m.size fun k hk=>m.block k (F.lt h.inv hk),h.gr.bl m,h.sub,fun x hx=>(m.block _ (hp_lt (h.at_ x hx))).trans (h.at_ x hx),h.lo,h.dj⟩
theorem Hq.new(h:Hq F s0 s w V l)(ob:Obj):∃V',V.alloc ob=V'∧Hq F s0 s w V' ((V.heap.size,ob)::l)∧V'.heap.size=V.heap.size+1:=by
 have m:=(Below.refl V.heap.size V).alloc (Nat.le_refl _) ob;have h2:=h.bl m;refine⟨_,rfl,⟨h2.inv,h2.gr,h2.sub,fun x hx=>?_,fun x hx=>?_,?_⟩,by simp⟩
 ·rcases List.mem_cons.1 hx with rfl|hx
  ·exact heap_alloc_new V ob
  ·exact h2.at_ x hx
 ·rcases List.mem_cons.1 hx with rfl|hx
  ·exact⟨h.gr.size,fun e=>by have:=F.lt h.inv e;exact absurd this (Nat.lt_irrefl _)⟩
  ·exact h.lo x hx
 ·exact List.pairwise_cons.2 ⟨fun y hy=>by have:=hp_lt (h.at_ y hy);show V.heap.size≠y.1;omega,h.dj⟩
theorem hq_turn{j a:Nat}{ob ob':Obj}(hj:l[j]?=some (a,ob))(dj:l.Pairwise (fun x y=>x.1≠y.1))(hv:∀x∈l,V.heap[x.1]?=some x.2)(ha:W.heap[a]?=some ob')(hn:∀k,k≠a→W.heap[k]?=V.heap[k]?):∀x∈l.set j (a,ob'),W.heap[x.1]?=some x.2:=by
 induction l generalizing j with
 | nil=>simp at hj
 | cons b l ih =>
  intro x hx;have p:=List.pairwise_cons.1 dj;cases j with
  | zero =>
   obtain rfl:b=(a,ob):=by simpa using hj
   rcases List.mem_cons.1 hx with rfl|hx
   ·exact ha
   ·exact(hn _ (fun q=>p.1 x hx q.symm)).trans (hv x (List.mem_cons_of_mem _ hx))
  | succ j =>
   rw [List.getElem?_cons_succ]at hj;rcases List.mem_cons.1 hx with rfl|hx
   ·exact(hn _ (p.1 _ (List.mem_of_getElem? hj))).trans (hv x List.mem_cons_self)
   ·exact ih hj p.2 (fun y hy=>hv y (List.mem_cons_of_mem _ hy)) x hx
theorem Hq.put{j a:Nat}{c:Array Value}{t:TypeId}(h:Hq F s0 s w V l)(hj:l[j]?=some (a,.cells c t))(L:List (Nat×Value)):∃V',stL V a L=V'∧Hq F s0 s w V' (l.set j (a,.cells (stA c L) t))∧V'.heap.size=V.heap.size:=by
 have hm:=List.mem_of_getElem? hj;have lo:=h.lo _ hm;refine⟨_,rfl,⟨F.keep h.inv (Nat.le_of_eq (stL_size L).symm) fun k hk=>stL_ne (by rintro rfl;exact lo.2 hk) L,?_,h.sub,hq_turn hj h.dj h.at_ (stL_at L (h.at_ _ hm)) fun k hk=>stL_ne hk L,fun x hx=>?_,hp_setl (R:=fun x y=>x.1≠y.1) (x:=(a,.cells c t)) (y:=(a,.cells (stA c L) t)) (fun z=>⟨Iff.rfl,Iff.rfl⟩) hj h.dj⟩,stL_size L⟩
 ·have g:=stL_gr (w:=V) (o:=some a) (.inr rfl) L ⟨rfl,rfl,rfl,Nat.le_refl _,fun _ _ _=>rfl⟩
  exact h.gr.trans (T:=fun k=>k=a) (.of g) fun k e=>.inr (by subst e;exact lo.1)
 ·rcases List.mem_or_eq_of_mem_set hx with hx|rfl
  ·exact h.lo x hx
  ·exact lo
theorem Hq.call(h:Hq F s0 s w V l)(c:Hq F s s' V W []):Hq F s0 s' w W l :=
⟨c.inv,h.gr.trans c.gr h.sub,fun k e=>by
 rcases c.sub k e with q|q
 ·exact h.sub k q
 ·exact .inr (Nat.le_trans h.gr.size q),fun x hx=>(c.gr.block _ (hp_lt (h.at_ x hx)) (h.lo x hx).2).trans (h.at_ x hx),fun x hx=>⟨(h.lo x hx).1,fun e=>by
 rcases c.sub _ e with q|q
 ·exact(h.lo x hx).2 q
 ·have:=hp_lt (h.at_ x hx);omega⟩,h.dj⟩
theorem Hq.fin(h:Hq F s0 s w V l):Hq F s0 s w V []:=⟨h.inv,h.gr,h.sub,by simp,by simp,.nil⟩
theorem Hq.tail{x:Nat×Obj}(h:Hq F s0 s w V (x::l)):Hq F s0 s w V l:=⟨h.inv,h.gr,h.sub,fun y hy=>h.at_ y (List.mem_cons_of_mem _ hy),fun y hy=>h.lo y (List.mem_cons_of_mem _ hy),(List.pairwise_cons.1 h.dj).2⟩
theorem Hq.b(h:Hq F s0 s w V l)(j:Nat){a:Nat}{ob:Obj}(hj:l[j]?=some (a,ob)):V.heap[a]?=some ob:=h.at_ _ (List.mem_of_getElem? hj)
theorem Hq.c(h:Hq F s0 s w V l)(j i:Nat){a:Nat}{c:List Value}{t:TypeId}{v:Value}(hj:l[j]?=some (a,.cells c.toArray t))(hi:c[i]?=some v):V.cell? ⟨a,i,none⟩=some v:=by rw [Lib.cell_of_heap (h.b j hj) i,List.getElem?_toArray,hi]
theorem Hq.f(h:Hq F s0 s w V l)(j i:Nat){a:Nat}{c:Array Value}{t:TypeId}(hj:l[j]?=some (a,.cells c t)):V.frozen? ⟨a,i,none⟩=false:=Lib.frozen_of_heap (h.b j hj) i
theorem Hq.rg(h:Hq F s0 s w V l)(j:Nat){a:Nat}{c:List Value}{t:TypeId}(hj:l[j]?=some (a,.cells c.toArray t)):V.rangeAt a 0 c:=fun i v e=>by
 rw [Nat.zero_add];exact h.c j i hj e
theorem Hq.rgd(h:Hq F s0 s w V l)(j k:Nat){a:Nat}{c:List Value}{t:TypeId}(hj:l[j]?=some (a,.cells c.toArray t)):V.rangeAt a k (c.drop k):=fun i v e=>h.c j (k+i) hj (by rwa [List.getElem?_drop]at e)
theorem Hq.lt(h:Hq F s0 s w V l)(j:Nat){a:Nat}{ob:Obj}(hj:l[j]?=some (a,ob)):a<V.heap.size:=hp_lt (h.b j hj)
theorem Hq.below(h:Hq F s0 s w V l){b:Nat}(hb:b≤w.heap.size)(hs:∀k,F.Fr s0 k→b≤k):Below b w V:=h.gr.below hs hb
theorem Hq.sz(h:Hq F s0 s w V l):w.heap.size≤V.heap.size:=h.gr.size
end
end Go.Proofs.YtabhkakomececaaGreat
namespace Go.Proofs.YtabhkakomececaaGreat.Utf
open Go.Lib
def byN(s:ByteArray)(i:Nat):Nat:=(s.data.toList.getD i 0).toNat
theorem byN_lt(s:ByteArray)(i:Nat):byN s i<256:=UInt8.toNat_lt _
theorem byN_get(s:ByteArray)(k:Nat)(h:k<s.size):s[k].toNat=byN s k:=by
 unfold byN;have h':k<s.data.toList.length:=by simpa using h
 simp only[List.getD,List.getElem?_eq_getElem h',Option.getD_some];rfl
def bl(s:ByteArray):List Int:=s.data.toList.map fun b=>(b.toNat:Int)
theorem ba_toList(a:ByteArray):a.toList=a.data.toList:=Go.Lib.toList_data a
theorem bl_inj{a b:ByteArray}:(a.toList==b.toList)=decide (bl a=bl b):=by
 rw [Bool.eq_iff_iff,ba_toList,ba_toList];simp only[beq_iff_eq,decide_eq_true_eq]
 constructor
 ·intro h;unfold bl;rw [h]
 ·intro h
  exact(List.map_inj_right (fun x y e=>UInt8.toNat_inj.1 (by exact Int.ofNat.inj e))).1 h
theorem bl_ext{a b:ByteArray}(h:bl a=bl b):a=b:=by
 have h1:(a.toList==b.toList)=true:=by rw [bl_inj];simpa using h
 have h2:a.toList=b.toList:=by simpa using h1
 rw [ba_toList,ba_toList]at h2;exact ByteArray.ext (Array.ext' h2)
theorem bl_get(s:ByteArray)(k:Nat)(h:k<s.size):(bl s)[k]?=some (byN s k:Int):=by
 unfold bl byN;have h':k<s.data.toList.length:=by simpa using h
 simp [List.getD,List.getElem?_eq_getElem h']
theorem bl_length(s:ByteArray):(bl s).length=s.size:=by unfold bl;simp
theorem bl_drop{s:ByteArray}{i:Nat}(h:i<s.size):(bl s).drop i=(byN s i:Int)::(bl s).drop (i+1):=by
 have:=bl_get s i h;rw [List.drop_eq_getElem_cons (by rw [bl_length];exact h)]
 rw [List.getElem?_eq_getElem (by rw [bl_length];exact h)]at this
 rw [Option.some.inj this]
end Go.Proofs.YtabhkakomececaaGreat.Utf
namespace Go.Proofs.YtabhkakomececaaGreat.Nam
open Go.Lib Utf
theorem less_irr:∀(a:List UInt8),Go.Op.bytesLess a a=false
| []=>rfl
| a::x=>by
 simp only[Go.Op.bytesLess,less_irr x,Bool.and_false,Bool.or_false];exact decide_eq_false (UInt8.lt_irrefl a)
theorem less_cons (a b:UInt8) (x y:List UInt8):Go.Op.bytesLess (a::x) (b::y)=true↔a.toNat<b.toNat∨(a=b∧Go.Op.bytesLess x y=true):=by
 simp only[Go.Op.bytesLess,Bool.or_eq_true,decide_eq_true_eq,Bool.and_eq_true,beq_iff_eq,UInt8.lt_iff_toNat_lt]
theorem less_trans:∀{a b c:List UInt8},Go.Op.bytesLess a b=true→Go.Op.bytesLess b c=true→Go.Op.bytesLess a c=true
| _,[],_,h,_=>by simp [Go.Op.bytesLess]at h
| _,_::_,[],_,h=>by simp [Go.Op.bytesLess]at h
| [],_::_,_::_,_,_=>rfl
| a::x,b::y,c::z,h1,h2=>by
 rw [less_cons]at h1 h2 ⊢;rcases h1 with h1|⟨rfl,h1⟩
 ·rcases h2 with h2|⟨rfl,h2⟩
  ·exact .inl (by omega)
  ·exact .inl h1
 ·rcases h2 with h2|⟨rfl,h2⟩
  ·exact .inl h2
  ·exact .inr ⟨rfl,less_trans h1 h2⟩
theorem less_tri:∀{a b:List UInt8},Go.Op.bytesLess a b=false→Go.Op.bytesLess b a=false→a=b
| [],[],_,_=>rfl
| [],_::_,h,_=>by simp [Go.Op.bytesLess]at h
| _::_,[],_,h=>by simp [Go.Op.bytesLess]at h
| a::x,b::y,h1,h2=>by
 have g1:=mt (less_cons a b x y).2 (by rw [h1];decide)
 have g2:=mt (less_cons b a y x).2 (by rw [h2];decide)
 have e:a=b:=UInt8.toNat_inj.1 (by omega);subst e
 have q1:Go.Op.bytesLess x y=false:=by
  cases h:Go.Op.bytesLess x y
  ·rfl
  ·exact absurd (.inr ⟨rfl,h⟩) g1
 have q2:Go.Op.bytesLess y x=false:=by
  cases h:Go.Op.bytesLess y x
  ·rfl
  ·exact absurd (.inr ⟨rfl,h⟩) g2
 rw [less_tri q1 q2]
def lt(a b:ByteArray):Bool:=Go.Op.bytesLess a.toList b.toList
theorem lt_irr(a:ByteArray):lt a a=false:=less_irr _
theorem lt_trans{a b c:ByteArray}(h:lt a b=true)(k:lt b c=true):lt a c=true:=less_trans h k
theorem str_ext{a b:ByteArray}(h:a.toList=b.toList):a=b:=by
 rw [ba_toList,ba_toList]at h;exact ByteArray.ext (Array.ext' h)
theorem lt_tri{a b:ByteArray}(h:lt a b=false)(k:lt b a=false):a=b:=str_ext (less_tri h k)
theorem lt_asymm{a b:ByteArray}(h:lt a b=true):lt b a=false:=by
 cases k:lt b a
 ·rfl
 ·exact absurd (lt_trans h k) (by rw [lt_irr];decide)
theorem seq_iff(a b:ByteArray):(a.toList==b.toList)=decide (a=b):=by
 rw [Bool.eq_iff_iff,beq_iff_eq,decide_eq_true_iff];exact⟨str_ext,fun h=>by rw [h]⟩
def findF(s:ByteArray):List ByteArray→Nat→Int
| [],_=>-1
| x::l,i=>if x=s then i else findF s l (i+1)
def findS(l:List ByteArray)(s:ByteArray):Int:=findF s l 0
theorem findF_cases(s:ByteArray):∀(l:List ByteArray)(i:Nat),(findF s l i=-1∧s ∉ l)∨∃k,k<l.length∧l[k]?=some s∧(∀j,j<k→l[j]?≠some s)∧findF s l i=(i+k:Nat)
| [],i=>.inl ⟨rfl,by simp⟩
| x::l,i=>by
 by_cases h:x=s
 ·exact .inr ⟨0,by simp,by simp [h],fun j hj=>by omega,by rw [findF,if_pos h];simp⟩
 ·rcases findF_cases s l (i+1)with⟨h1,h2⟩|⟨k,h1,h2,h3,h4⟩
  ·exact .inl ⟨by rw [findF,if_neg h,h1],by rw [List.mem_cons];exact fun q=>q.elim (fun e=>h e.symm) h2⟩
  ·refine .inr ⟨k+1,by simp;omega,by simpa using h2,fun j hj=>?_,by rw [findF,if_neg h,h4];congr 1;omega⟩
   cases j with
   | zero=>simpa using h
   | succ j=>simpa using h3 j (by omega)
theorem find_cases(l:List ByteArray)(s:ByteArray):(findS l s=-1∧s ∉ l)∨∃k:Nat,k<l.length∧l[k]?=some s∧(∀j,j<k→l[j]?≠some s)∧findS l s=k:=by
 rcases findF_cases s l 0 with h|⟨k,h1,h2,h3,h4⟩
 ·exact .inl h
 ·exact .inr ⟨k,h1,h2,h3,by rw [findS,h4];simp⟩
theorem find_is{l:List ByteArray}{s:ByteArray}{k:Nat}(h:l[k]?=some s)(h2:∀j,j<k→l[j]?≠some s):findS l s=k:=by
 rcases find_cases l s with⟨_,h1⟩|⟨m,_,h3,h4,h5⟩
 ·exact absurd (List.mem_of_getElem? h) h1
 ·rcases Nat.lt_trichotomy k m with q|q|q
  ·exact absurd h (h4 k q)
  ·rw [h5,q]
  ·exact absurd h3 (h2 m q)
theorem find_none{l:List ByteArray}{s:ByteArray}(h:s ∉ l):findS l s=-1:=by
 rcases find_cases l s with h1|⟨m,_,h3,_⟩
 ·exact h1.1
 ·exact absurd (List.mem_of_getElem? h3) h
noncomputable instance memDec (x:ByteArray)(l:List ByteArray):Decidable (x∈l):=Classical.propDecidable _
noncomputable def twiF(l:List ByteArray):Nat→Nat→Int
| 0,_=>-1
| k+1,i=>if l.getD i ByteArray.empty∈l.take i then i else twiF l k (i+1)
noncomputable def twiS(l:List ByteArray):Int:=twiF l l.length 0
theorem twiF_cases(l:List ByteArray):∀(k i:Nat),(twiF l k i=-1∧∀j,i≤j→j<i+k→l.getD j ByteArray.empty ∉ l.take j) ∨
 ∃m,i≤m∧m<i+k∧l.getD m ByteArray.empty∈l.take m∧(∀j,i≤j→j<m→l.getD j ByteArray.empty ∉ l.take j)∧twiF l k i=m
| 0,i=>.inl ⟨rfl,fun j h1 h2=>by omega⟩
| k+1,i=>by
 by_cases h:l.getD i ByteArray.empty∈l.take i
 ·exact .inr ⟨i,Nat.le_refl _,by omega,h,fun j h1 h2=>by omega,by rw [twiF,if_pos h]⟩
 ·rcases twiF_cases l k (i+1)with⟨h1,h2⟩|⟨m,h1,h2,h3,h4,h5⟩
  ·refine .inl ⟨by rw [twiF,if_neg h,h1],fun j q1 q2=>?_⟩
   rcases Nat.eq_or_lt_of_le q1 with e|q3
   ·subst e;exact h
   ·exact h2 j q3 (by omega)
  ·refine .inr ⟨m,by omega,by omega,h3,fun j q1 q2=>?_,by rw [twiF,if_neg h,h5]⟩
   rcases Nat.eq_or_lt_of_le q1 with e|q3
   ·subst e;exact h
   ·exact h4 j q3 q2
theorem twi_is{l:List ByteArray}{m:Nat}(hm:m<l.length)(h:l.getD m ByteArray.empty∈l.take m)(h2:∀j,j<m→l.getD j ByteArray.empty ∉ l.take j):twiS l=m:=by
 rcases twiF_cases l l.length 0 with⟨_,h1⟩|⟨k,_,h3,h4,h5,h6⟩
 ·exact absurd h (h1 m (by omega) (by omega))
 ·rw [twiS,h6]
  rcases Nat.lt_trichotomy k m with q|q|q
  ·exact absurd h4 (h2 k q)
  ·rw [q]
  ·exact absurd h (h5 m (by omega) q)
theorem twi_none{l:List ByteArray}(h:∀j,j<l.length→l.getD j ByteArray.empty ∉ l.take j):twiS l=-1:=by
 rcases twiF_cases l l.length 0 with h1|⟨k,_,h3,h4,_⟩
 ·exact h1.1
 ·exact absurd h4 (h k (by omega))
theorem twi_cases(l:List ByteArray):(twiS l=-1∧∀j,j<l.length→l.getD j ByteArray.empty ∉ l.take j) ∨
  ∃m:Nat,m<l.length∧l.getD m ByteArray.empty∈l.take m∧(∀j,j<m→l.getD j ByteArray.empty ∉ l.take j)∧twiS l=m:=by
 rcases twiF_cases l l.length 0 with⟨h1,h2⟩|⟨k,_,h3,h4,h5,h6⟩
 ·exact .inl ⟨h1,fun j hj=>h2 j (by omega) (by omega)⟩
 ·exact .inr ⟨k,by omega,h4,fun j hj=>h5 j (by omega) hj,h6⟩
def Inc(l:List ByteArray):Prop:=l.Pairwise fun a b=>lt a b=true
theorem inc_unique:∀{a b:List ByteArray},Inc a→Inc b→(∀x,x∈a↔x∈b)→a=b
| [],[],_,_,_=>rfl
| [],y::b,_,_,h=>absurd ((h y).2 List.mem_cons_self) (by simp)
| x::a,[],_,_,h=>absurd ((h x).1 List.mem_cons_self) (by simp)
| x::a,y::b,ha,hb,h=>by
 have ha':=List.pairwise_cons.1 ha;have hb':=List.pairwise_cons.1 hb
 have e:x=y:=by
  rcases List.mem_cons.1 ((h x).1 List.mem_cons_self)with e|hx
  ·exact e
  ·rcases List.mem_cons.1 ((h y).2 List.mem_cons_self)with e|hy
   ·exact e.symm
   ·have h1:=hb'.1 x hx
    have h2:=ha'.1 y hy;rw [lt_asymm h1]at h2;cases h2
 subst e;rw [inc_unique ha'.2 hb'.2 fun z=>⟨fun hz=>?_,fun hz=>?_⟩]
 ·rcases List.mem_cons.1 ((h z).1 (List.mem_cons_of_mem _ hz))with e|q
  ·subst e;exact absurd (ha'.1 z hz) (by rw [lt_irr];decide)
  ·exact q
 ·rcases List.mem_cons.1 ((h z).2 (List.mem_cons_of_mem _ hz))with e|q
  ·subst e;exact absurd (hb'.1 z hz) (by rw [lt_irr];decide)
  ·exact q
def insS(s:ByteArray):List ByteArray→List ByteArray
| []=>[s]
| x::l=>if lt s x=true then s::x::l else if s=x then x::l else x::insS s l
theorem ins_mem(s:ByteArray):∀(l:List ByteArray)(x:ByteArray),x∈insS s l↔x=s∨x∈l
| [],x=>by simp [insS]
| y::l,x=>by
 rw [insS]
 split
 ·simp
 ·split
  ·next h=>subst h;simp
  ·simp only[List.mem_cons,ins_mem s l x]
   constructor<;>(intro h;rcases h with h|h|h<;>simp [h])
theorem ins_inc(s:ByteArray):∀{l:List ByteArray},Inc l→Inc (insS s l)
| [],_=>List.pairwise_singleton _ _
| y::l,h=>by
 have h':=List.pairwise_cons.1 h;rw [insS]
 split
 ·next q =>
  refine List.pairwise_cons.2 ⟨fun z hz=>?_,h⟩;rcases List.mem_cons.1 hz with e|hz
  ·subst e;exact q
  ·exact lt_trans q (h'.1 z hz)
 ·next q =>
  split
  ·exact h
  ·next q2 =>
   refine List.pairwise_cons.2 ⟨fun z hz=>?_,ins_inc s h'.2⟩;rcases(ins_mem s l z).1 hz with e|hz
   ·subst e
    cases k:lt y z
    ·exact absurd (lt_tri (by simpa using q) k) q2
    ·rfl
   ·exact h'.1 z hz
theorem ins_len(s:ByteArray):∀(l:List ByteArray),(insS s l).length≤l.length+1
| []=>by simp [insS]
| y::l=>by
 have:=ins_len s l;rw [insS]
 split
 ·simp
 ·split<;>simp<;>omega
def sortS(l:List ByteArray):List ByteArray:=l.foldr insS []
theorem sort_inc:∀(l:List ByteArray),Inc (sortS l)
| []=>List.Pairwise.nil
| x::l=>ins_inc x (sort_inc l)
theorem sort_mem:∀(l:List ByteArray)(x:ByteArray),x∈sortS l↔x∈l
| [],x=>by simp [sortS]
| y::l,x=>by
 rw [show sortS (y::l)=insS y (sortS l)from rfl,ins_mem,sort_mem l x,List.mem_cons]
theorem sort_is{l m:List ByteArray}(h:Inc m)(hm:∀x,x∈m↔x∈l):m=sortS l:=inc_unique h (sort_inc l) fun x=>by rw [hm,sort_mem]
theorem sort_len:∀(l:List ByteArray),(sortS l).length≤l.length
| []=>Nat.le_refl _
| x::l=>by
 have h1:=ins_len x (sortS l);have h2:=sort_len l;rw [show sortS (x::l)=insS x (sortS l)from rfl,List.length_cons];omega
def isSmall(c:Nat):Prop:=97≤c∧c≤122
def isSign(c:Nat):Prop:=(97≤c∧c≤122)∨c=95∨(48≤c∧c≤57)
instance (c:Nat):Decidable (isSmall c):=by unfold isSmall;infer_instance
instance (c:Nat):Decidable (isSign c):=by unfold isSign;infer_instance
def runF(s:ByteArray)(i:Nat):Nat:=(((bl s).drop i).takeWhile fun x=>decide (isSign x.toNat)).length
def sigS(s:ByteArray)(i:Nat):Nat:=if i<s.size∧isSmall (byN s i)then runF s i else 0
theorem runF_step{s:ByteArray}{i:Nat}(h:i<s.size)(hd:isSign (byN s i)):runF s i=runF s (i+1)+1:=by
 unfold runF;rw [bl_drop h,List.takeWhile_cons_of_pos (by simpa using hd),List.length_cons]
theorem runF_stop{s:ByteArray}{i:Nat}(h:i<s.size)(hd:¬isSign (byN s i)):runF s i=0:=by
 unfold runF;rw [bl_drop h,List.takeWhile_cons_of_neg (by simpa using hd)];rfl
theorem runF_end{s:ByteArray}{i:Nat}(h:s.size≤i):runF s i=0:=by
 unfold runF;rw [List.drop_eq_nil_of_le (by rw [bl_length];exact h)]
 rfl
theorem runF_len(s:ByteArray)(i:Nat)(h:i≤s.size):i+runF s i≤s.size:=by
 have:=(List.takeWhile_prefix (l:=(bl s).drop i) fun x=>decide (isSign x.toNat)).length_le;rw [List.length_drop,bl_length]at this;unfold runF;omega
theorem sig_len{s:ByteArray}{i:Nat}(h:i<s.size):i+sigS s i≤s.size:=by
 have:=runF_len s i (by omega);unfold sigS
 split<;>omega
def rightS(s:ByteArray):Bool:=decide (0<s.size∧s.size≤32∧sigS s 0=s.size)
end Go.Proofs.YtabhkakomececaaGreat.Nam
namespace Go.Proofs.YtabhkakomececaaGreat.Lat
open Nam
abbrev Wr:=ByteArray×Int
instance:Inhabited Wr:=⟨(ByteArray.empty,0)⟩
abbrev wN(ws:List Wr)(i:Nat):Wr:=ws.getD i (ByteArray.empty,0)
theorem wN_get{ws:List Wr}{i:Nat}(h:i<ws.length):wN ws i=ws[i]:=by simp [wN,List.getD,List.getElem?_eq_getElem h]
def nms(ws:List Wr):List ByteArray:=ws.map (·.1)
theorem nms_len(ws:List Wr):(nms ws).length=ws.length:=by simp [nms]
theorem nms_get{ws:List Wr}{i:Nat}(h:i<ws.length):(nms ws)[i]?=some (wN ws i).1:=by rw [wN_get h];simp [nms,List.getElem?_eq_getElem h]
theorem wN_mem{ws:List Wr}{i:Nat}(h:i<ws.length):wN ws i∈ws:=by rw [wN_get h];exact List.getElem_mem h
end Go.Proofs.YtabhkakomececaaGreat.Lat
namespace Go.Proofs.YtabhkakomececaaGreat
open Go.RowKit Go.Lib Go.ChangeShapes Go.WideShapes Go.Deep
section
variable {α:Type} {enc:α→List Value} {k:Nat}
def flatG(enc:α→List Value)(l:List α):List Value:=l.flatMap enc
theorem flatG_cons(x:α)(l:List α):flatG enc (x::l)=enc x++flatG enc l:=rfl
theorem flatG_append(l m:List α):flatG enc (l++m)=flatG enc l++flatG enc m:=by unfold flatG;rw [List.flatMap_append]
theorem flatG_snoc(l:List α)(x:α):flatG enc (l++[x])=flatG enc l++enc x:=by rw [flatG_append];simp [flatG]
theorem flatG_len(hk:∀x,(enc x).length=k):∀l:List α,(flatG enc l).length=l.length*k
| []=>by simp [flatG]
| x::l=>by rw [flatG_cons,List.length_append,hk,flatG_len hk l,List.length_cons,Nat.add_mul];omega
theorem flatG_get(hk:∀x,(enc x).length=k):∀(l:List α)(i j:Nat)(h:i<l.length),j<k→(flatG enc l)[i*k+j]?=(enc l[i])[j]?
| x::l,0,j,h,hj=>by
 rw [flatG_cons,Nat.zero_mul,Nat.zero_add,List.getElem?_append_left (by rw [hk];exact hj)];rfl
| x::l,i+1,j,h,hj=>by
 rw [flatG_cons,List.getElem?_append_right (by rw [hk,Nat.add_mul];omega),hk,show(i+1)*k+j-k=i*k+j by rw [Nat.add_mul];omega,flatG_get hk l i j (by simpa using h) hj]
 rfl
def RdG(enc:α→List Value)(k:Nat)(w:World)(v:Value)(l:List α):Prop:=RdAt w v k (flatG enc l)
theorem RdG.below{w w':World}{v:Value}{l:List α}(h:RdG enc k w v l)(hb:Below w.heap.size w w'):RdG enc k w' v l:=RdAt.below h hb
theorem RdG.none0(w:World)(A:Option Addr)(c:Nat):RdG enc k w (.slice A 0 c) []:=⟨A,0,c,rfl,by simp [flatG],Nat.zero_le _,fun h=>absurd h (by simp [flatG])⟩
theorem RdG.of_own{w:World}{base:Nat}{e:TypeId}{n:Nat}{v:Value}{l:List α}(h:w.ownsRow base e k v n (flatG enc l)):RdG enc k w v l:=RdAt.of_own h
theorem RdG.open(hk:∀x,(enc x).length=k)(h0:0<k){w:World}{v:Value}{l:List α}(h:RdG enc k w v l):∃(A:Option Addr)(c:Nat),v=.slice A l.length c∧l.length≤c ∧
  (0<l.length→∃g o,A=some ⟨g,o,none⟩∧g<w.heap.size∧∀i (hi:i<l.length) j,j<k→w.cell? ⟨g,o+i*k+j,none⟩=(enc l[i])[j]?):=by
 obtain⟨A,n,c,rfl,hl,hn,hc⟩:=h;rw [flatG_len hk]at hl;obtain rfl:n=l.length:=(Nat.eq_of_mul_eq_mul_right h0 hl).symm;refine⟨A,c,rfl,hn,fun hp=>?_⟩;obtain⟨g,o,rfl,hg,hc⟩:=hc (by rw [flatG_len hk];exact Nat.mul_pos hp h0)
 refine⟨g,o,rfl,hg,fun i hi j hj=>?_⟩;have e:=flatG_get hk l i j hi hj;have hs:j<(enc l[i]).length:=by rw [hk];exact hj
 rw [List.getElem?_eq_getElem hs]at e ⊢;rw [Nat.add_assoc];exact hc _ _ e
end
end Go.Proofs.YtabhkakomececaaGreat
