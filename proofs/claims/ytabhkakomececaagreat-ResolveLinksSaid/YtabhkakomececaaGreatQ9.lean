import Derived.Test.YtabhkakomececaaGreatQ7
import Derived.Test.YtabhkakomececaaGreatQ5
import Derived.Laws.OwnMore
import Derived.Laws.MakeOwn
import Derived.StillTailTactics
set_option linter.all false
set_option maxRecDepth 100000
set_option maxHeartbeats 4000000
namespace Go.Proofs.YtabhkakomececaaGreat.Lat
open Go.RowKit Go.Lib Rel Nam
def W32(x:Nat):Prop:=x<4294967296
theorem w32_pow{x:Nat}:W32 x↔x<2 ^ 32:=by unfold W32;rw [show(2:Nat) ^ 32=4294967296 from by decide]
theorem bit_w32{a:Nat}(h:a<32):W32 (bitN a):=w32_pow.2 (Nat.pow_lt_pow_right (by decide) h)
theorem zero_w32:W32 0:=by unfold W32;omega
theorem or_w32{x y:Nat}(hx:W32 x)(hy:W32 y):W32 (x|||y):=w32_pow.2 (Nat.or_lt_two_pow (w32_pow.1 hx) (w32_pow.1 hy))
theorem bits_or32 {x y:Nat} (hx:W32 x) (hy:W32 y):bits .or .u32 (x:Int) (y:Int)=((x|||y:Nat):Int):=u32_or_nat x y hx hy
theorem bits_and32 {x y:Nat} (hx:W32 x) (hy:W32 y):bits .and .u32 (x:Int) (y:Int)=((x&&&y:Nat):Int):=u32_and_nat x y hx hy
theorem wrap_bit32{a:Nat}(h:a<32):IntKind.u32.wrap (2 ^ a)=((bitN a:Nat):Int):=by
 have h1:=bit_w32 h;unfold W32 at h1;rw [IntKind.wrap_u32',show((2:Int) ^ a)=((bitN a:Nat):Int)by unfold bitN;simp];omega
def Wds(n:Nat)(F:Nat→Nat→Bool)(f:Nat→Nat):Prop:=∀a,a<n→W32 (f a)∧∀b,(f a).testBit b=(decide (b<n)&&F a b)
def WdsP(n:Nat)(P:Nat→Nat→Prop) [∀a b,Decidable (P a b)](F:Nat→Nat→Bool)(f:Nat→Nat):Prop:=∀a,a<n→W32 (f a)∧∀b,(f a).testBit b=(decide (P a b)&&F a b)
theorem and_word{n:Nat}{F:Nat→Nat→Bool}{f:Nat→Nat}(h:Wds n F f)(o:Ordr n F){a b c:Nat}(ha:a<n)(hb:b<n)(hc:c<n):(f c=f a&&&f b)↔bestB n F a b c=true:=by
 have ta:=(h a ha).2;have tb:=(h b hb).2;have tc:=(h c hc).2;rw [best_iff]
 constructor
 ·intro e
  have key:∀d,d<n→F c d=(F a d&&F b d):=fun d hd=>by
   have:=congrArg (fun x=>Nat.testBit x d) e;simp only[Nat.testBit_and,ta,tb,tc,decide_eq_true hd,Bool.true_and]at this;exact this
  have e1:=key c hc;rw [o.refl c hc]at e1;have e2:=(Bool.and_eq_true _ _).mp e1.symm;exact⟨e2.1,e2.2,fun d hd h1 h2=>by rw [key d hd,h1,h2];rfl⟩
 ·rintro⟨h1,h2,h3⟩
  refine Nat.eq_of_testBit_eq fun d=>?_
  rw [Nat.testBit_and,ta,tb,tc]
  by_cases hd:d<n
  ·rw [decide_eq_true hd,Bool.true_and,Bool.true_and,Bool.true_and,Bool.eq_iff_iff,Bool.and_eq_true]
   exact⟨fun q=>⟨o.trans _ _ _ ha hc hd h1 q,o.trans _ _ _ hb hc hd h2 q⟩,fun q=>h3 d hd q.1 q.2⟩
  ·rw [decide_eq_false hd];rfl
theorem leastF_same{p q:Nat→Bool}:∀(k i:Nat),(∀j,i≤j→j<i+k→p j=q j)→leastF p k i=leastF q k i
| 0,i,h=>rfl
| k+1,i,h=>by rw [leastF,leastF,h i (Nat.le_refl _) (by omega),leastF_same k (i+1) (fun j h1 hj=>h j (by omega) (by omega))]
def idxN(f:Nat→Nat)(n y:Nat):Int:=leastS n fun c=>decide (y=f c)
theorem idx_join{n:Nat}{F:Nat→Nat→Bool}{f:Nat→Nat}(h:Wds n F f)(o:Ordr n F){a b:Nat}(ha:a<n)(hb:b<n):idxN f n (f a&&&f b)=joinS n F a b:=by
 refine leastF_same n 0 fun c _ hc=>?_
 rw [Bool.eq_iff_iff,decide_eq_true_iff,←and_word h o ha hb (by omega)];exact eq_comm
def uv(n:Nat)(f:Nat→Nat):List Value:=(List.range n).map fun i=>.int .u32 (f i:Nat)
theorem uv_len(n:Nat)(f:Nat→Nat):(uv n f).length=n:=by simp [uv]
theorem uv_get(n:Nat)(f:Nat→Nat){i:Nat}(h:i<n):(uv n f)[i]?=some (.int .u32 (f i:Nat)):=by
 unfold uv;rw [List.getElem?_map,List.getElem?_range h];rfl
theorem uv_set(n:Nat)(f:Nat→Nat)(a y:Nat):(uv n f).set a (.int .u32 y)=uv n (upd f a y):=by
 unfold uv;refine List.ext_getElem (by simp) fun i h1 h2=>?_
 rw [List.getElem_set];simp only[List.getElem_map,List.getElem_range,upd]
 by_cases e:a=i
 ·subst e;simp
 ·rw [if_neg e,if_neg (fun q=>e q.symm)]
def latV(v1 v2:Value)(h:Nat→Int):List Value:=v1::v2::(List.range 2048).map fun i=>.int .i8 (h i)
theorem latV_len(v1 v2:Value)(h:Nat→Int):(latV v1 v2 h).length=2050:=by simp [latV]
theorem latV_get(v1 v2:Value)(h:Nat→Int){i:Nat}(hi:i<2048):(latV v1 v2 h)[2+i]?=some (.int .i8 (h i)):=by
 unfold latV;rw [Nat.add_comm,List.getElem?_cons_succ,List.getElem?_cons_succ,List.getElem?_map,List.getElem?_range hi];rfl
def updZ(h:Nat→Int)(i:Nat)(y:Int)(j:Nat):Int:=if j=i then y else h j
theorem latV_set(v1 v2:Value)(h:Nat→Int){i:Nat}(hi:i<2048)(y:Int):(latV v1 v2 h).set (2+i) (.int .i8 y)=latV v1 v2 (updZ h i y):=by
 unfold latV;rw [Nat.add_comm,List.set_cons_succ,List.set_cons_succ]
 congr 2
 refine List.ext_getElem (by simp) fun j h1 h2=>?_
 rw [List.getElem_set];simp only[List.getElem_map,List.getElem_range,updZ]
 by_cases e:i=j
 ·subst e;simp
 ·rw [if_neg e,if_neg (fun q=>e q.symm)]
def latC(v1 v2:Value):Array Value:=(v1::v2::List.replicate 2048 (Value.int .i8 0)).toArray
theorem latC_zero(v1 v2:Value):(latC v1 v2).toList=latV v1 v2 (fun _=>0):=by
 unfold latC latV;simp only[List.map_const'];rw [List.length_range]
theorem place_inj{a b c d:Nat}(hb:b<32)(hd:d<32)(h:a*32+b=c*32+d):a=c∧b=d:=by omega
def setZ(h:Nat→Int)(q a b:Nat)(y:Int):Nat→Int:=updZ (updZ h (q+(a*32+b)) y) (q+(b*32+a)) y
theorem setZ_at{h:Nat→Int}{q a b c d:Nat}{y:Int}(ha:a<32)(hb:b<32)(hc:c<32)(hd:d<32):setZ h q a b y (q+(c*32+d))=if(c=a∧d=b)∨(c=b∧d=a)then y else h (q+(c*32+d)):=by
 unfold setZ updZ
 by_cases h1:c=b∧d=a
 ·obtain⟨rfl,rfl⟩:=h1
  rw [if_pos rfl,if_pos (.inr ⟨rfl,rfl⟩)]
 ·rw [if_neg (fun e=>h1 (place_inj hd ha (by omega)))]
  by_cases h2:c=a∧d=b
  ·obtain⟨rfl,rfl⟩:=h2
   rw [if_pos rfl,if_pos (.inl ⟨rfl,rfl⟩)]
  ·rw [if_neg (fun e=>h2 (place_inj hd hb (by omega))),if_neg (by rintro(h|h);exact h2 h;exact h1 h)]
theorem setZ_far{h:Nat→Int}{q q' a b:Nat}{y:Int}(ha:a<32)(hb:b<32){i:Nat}(hi:i<1024)(hq:q+1024≤q'∨q'+1024≤q):setZ h q a b y (q'+i)=h (q'+i):=by
 unfold setZ updZ;rw [if_neg (by omega),if_neg (by omega)]
def FilM(q:Nat)(J:Nat→Nat→Int)(K L:Nat)(h:Nat→Int):Prop:=∀a b,a<32→b<32→((a<K∧b<K)∨(a=K∧b<L)∨(b=K∧a<L))→h (q+(a*32+b))=J a b
theorem FilM.put{q:Nat}{J:Nat→Nat→Int}{K L:Nat}{h:Nat→Int}(hF:FilM q J K L h)(hJ:∀a b,J a b=J b a)(hK:K<32)(hL:L≤K):FilM q J K (L+1) (setZ h q K L (J K L)):=fun a b ha hb hp=>by
 rw [setZ_at hK (by omega) ha hb]
 split
 ·next hs =>
  rcases hs with⟨rfl,rfl⟩|⟨rfl,rfl⟩
  ·rfl
  ·exact hJ _ _
 ·next hs=>exact hF a b ha hb (by omega)
theorem FilM.far{q q':Nat}{J:Nat→Nat→Int}{K L:Nat}{h:Nat→Int}(hF:FilM q' J K L h){a b:Nat}{y:Int}(ha:a<32)(hb:b<32)(hq:q+1024≤q'∨q'+1024≤q):FilM q' J K L (setZ h q a b y):=fun c d hc hd hp=>by
 rw [setZ_far ha hb (by omega) hq];exact hF c d hc hd hp
theorem FilM.next{q:Nat}{J:Nat→Nat→Int}{K:Nat}{h:Nat→Int}(hF:FilM q J K (K+1) h):FilM q J (K+1) 0 h:=fun a b ha hb hp=>hF a b ha hb (by omega)
theorem FilM.nil{q:Nat}{J:Nat→Nat→Int}{h:Nat→Int}:FilM q J 0 0 h:=fun a b ha hb hp=>by omega
theorem infoU32:(Tryz.prog.info? 277).map (fun i=>(i.zero,i.size,i.bytes))=some (some (.int .u32 0),1,4):=by kernel_rfl
theorem mk_u32(n:Nat)(hn:n≤1000000):∃M:Array Value,M.toList=uv n (fun _=>0) ∧
  ∀w,(Instr.makeSlice 273 (.int .i64 n) (.int .i64 n)).run Tryz.prog w=.ok (.slice (some ⟨w.heap.size,0,none⟩) n n) (w.alloc (.cells M 277)):=by
 obtain⟨i0,hi,hz0,hz1,hz2⟩:=info_parts infoU32;refine⟨madeCells (#[.int .u32 0]) (n*1),by rw [toList_madeCells_one,Nat.mul_one];unfold uv;simp only[List.map_const'];rw [List.length_range];rfl,fun w=>?_⟩
 have:=run_make (P:=Tryz.prog) w 273 277 i0 _ Tryz.underlying273 hi hz0 .i64 .i64 n n (by omega) (Int.le_refl _) (by rw [hz2];omega) (by omega)
 rw [hz1]at this;exact this
theorem grown_trans{w w' w'':World}{row:Option Nat}(h:w.grownBy w' row)(h':w'.grownBy w'' row):w.grownBy w'' row :=
⟨h'.os.trans h.os,h'.tape.trans h.tape,h'.output.trans h.output,Nat.le_trans h.size h'.size,fun k hk hr=>(h'.block k (Nat.lt_of_lt_of_le hk h.size) hr).trans (h.block k hk hr)⟩
theorem below_of_grown{B0 B:Nat}{w w':World}(h:w.grownBy w' (some B))(h0:B0≤B)(h1:B0≤w.heap.size):Below B0 w w':=grown_below h h1 (fun k e=>by cases e;exact h0)
theorem grown_cell{w w':World}{B g x:Nat}{u:Value}(h:w.grownBy w' (some B))(hg:g<w.heap.size)(hn:g≠B)(hc:w.cell? ⟨g,x,none⟩=some u):w'.cell? ⟨g,x,none⟩=some u :=
(World.cell?_of_block (a:=⟨g,x,none⟩) (h.block g hg (by simpa using hn))).trans hc
theorem idx32_calls(n:Nat)(f:Nat→Nat)(g c:Nat)(y:Nat)(w:World)(hn:n≤32)(hca:∀i,i<n→w.cell? ⟨g,i,none⟩=some (.int .u32 (f i:Nat)))(R:Ending→World→Prop)
  (hR:Hid (R (.returned (.int .i64 (idxN f n y))) w)):Calls Tryz.prog 192 #[.slice (some ⟨g,0,none⟩) n c,.int .u32 (y:Nat)] w R:=by
 replace hca:=Lib.hid hca;go_enter Tryz.func192,Tryz.ntmps192
 go_wp2_with fail
 go_loopg [5,8] n (fun k s5 i wr=>∃(K:Nat),i=.int .i64 K∧K+k=n∧wr=w∧Hid (leastF (fun c=>decide (y=f c)) k K=idxN f n y))
 case atStart=>exact⟨0,rfl,by omega,rfl,Lib.hid rfl⟩
 case round =>
  obtain⟨K,rfl,c1,rfl,hc⟩:=hrel
  by_cases hK:K<n
  ·obtain⟨kI,rfl⟩:∃k,gk=k+1:=⟨gk-1,by omega⟩
   have e0:=hca.out K hK;have h2:=hc.out;rw [leastF]at h2;have hi0:(0:Int)≤(K:Int):=by omega
   have hi1:(K:Int)<(n:Int):=by omega
   by_cases e:y=f K
   ·rw [if_pos (decide_eq_true e)]at h2
    have q0:(((y:Nat):Int)==((f K:Nat):Int))=true:=by rw [e];simp
    rw [←h2]at hR;clear hc h2 e;generalize f K=z at *;go_wp2_with fail
    exact hR.out
   ·rw [if_neg (by simp [e])]at h2
    have q0:(((y:Nat):Int)==((f K:Nat):Int))=false:=by simp;omega
    replace h2:=Lib.hid h2;clear hc e;generalize f K=z at *;go_wp2_with fail
    go_roundg kI
    case measure=>omega
    case rel=>exact⟨K+1,by go_num,by omega,rfl,h2⟩
  ·obtain rfl:gk=0:=by omega
   have h2:=hc.out;rw [leastF]at h2;rw [←h2]at hR;clear hc h2;go_wp2_with fail
   exact hR.out
abbrev OwnL(w:World)(base B:Nat)(v1 v2:Value)(h:Nat→Int):Prop:=w.ownsRow base 155 1 (.slice (some ⟨B,0,none⟩) 2050 2050) 2050 (latV v1 v2 h)
theorem OwnL.cell{w:World}{base B:Nat}{v1 v2:Value}{h:Nat→Int}(ow:OwnL w base B v1 v2 h){i:Nat}(hi:i<2048):w.cell? ⟨B,2+i,none⟩=some (.int .i8 (h i)):=(World.ownsRow.cellAt ow (2+i) (by omega)).trans (latV_get v1 v2 h hi)
theorem OwnL.frozen{w:World}{base B:Nat}{v1 v2:Value}{h:Nat→Int}(ow:OwnL w base B v1 v2 h)(i:Nat):w.frozen? ⟨B,i,none⟩=false:=World.ownsRow.frozenAt ow i
theorem OwnL.put{w:World}{base B:Nat}{v1 v2:Value}{h:Nat→Int}(ow:OwnL w base B v1 v2 h){i:Nat}(hi:i<2048)(y:Int):OwnL (w.setCell ⟨B,2+i,none⟩ (.int .i8 y)) base B v1 v2 (updZ h i y)∧w.grownBy (w.setCell ⟨B,2+i,none⟩ (.int .i8 y)) (some B):=by
 obtain⟨h1,h2⟩:=World.ownsRow.stored ow (2+i) (.int .i8 y);rw [latV_set v1 v2 h hi]at h1;exact⟨h1,h2⟩
theorem latset_calls(base B:Nat)(v1 v2:Value)(h:Nat→Int)(w:World)(ow:OwnL w base B v1 v2 h)(q o:Nat)(ho:o=2+q)(hq:q=0∨q=1024)(a b k:Nat)(ha:a<32)(hb:b<32)(hk:k<32)(R:Ending→World→Prop)
  (hR:Hid (∀w',OwnL w' base B v1 v2 (setZ h q a b k)→w.grownBy w' (some B)→R (.returned (.tuple #[])) w')):Calls Tryz.prog 193 #[.pointer (some ⟨B,o,none⟩),.int .i64 (a:Nat),.int .i64 (b:Nat),.int .i64 (k:Nat)] w R:=by
 have p1:o+a*32+b=2+(q+(a*32+b)):=by omega
 have p2:o+b*32+a=2+(q+(b*32+a)):=by omega
 have c1:=ow.cell (show q+(a*32+b)<2048 by omega);have f1:=ow.frozen (2+(q+(a*32+b)));obtain⟨o2,g2⟩:=ow.put (show q+(a*32+b)<2048 by omega) k;have c2:=o2.cell (show q+(b*32+a)<2048 by omega);have f2:=o2.frozen (2+(q+(b*32+a)));obtain⟨o3,g3⟩:=o2.put (show q+(b*32+a)<2048 by omega) k;have fin:=Lib.hid (hR.out _ o3 (grown_trans g2 g3));rw [←p1]at c1 f1 fin c2 f2;rw [←p2]at c2 f2 fin;have a0:(0:Int)≤(a:Int):=by omega
 have a1:(a:Int)<32:=by omega
 have b0:(0:Int)≤(b:Int):=by omega
 have b1:(b:Int)<32:=by omega
 have k0:(0:Int)≤(k:Int):=by omega
 have k1:(k:Int)<32:=by omega
 clear p1 p2 o2 g2 o3 g3 ow ho hq hR;generalize h (q+(a*32+b))=y1 at *;generalize updZ h (q+(a*32+b)) k (q+(b*32+a))=y2 at *;go_enter Tryz.func193,Tryz.ntmps193
 go_wp2_with fail
 refine bodyPost_ret ?_ rfl fin.out;simp [results,Tryz.results193,go_sem]
def WA(n:Nat)(F:Nat→Nat→Bool)(K L:Nat)(f:Nat→Nat):Prop:=∀a,a<n→W32 (f a)∧∀b,(f a).testBit b=(decide ((a<K∧b<n)∨(a=K∧b<L))&&F a b)
def WB(n:Nat)(F:Nat→Nat→Bool)(K L:Nat)(f:Nat→Nat):Prop:=∀b,b<n→W32 (f b)∧∀a,(f b).testBit a=(decide (a<K∨(a=K∧b<L))&&F a b)
section
variable {n:Nat} {F:Nat→Nat→Bool} {K L:Nat} {f:Nat→Nat}
theorem WA.nil:WA n F 0 0 (fun _=>0):=fun a _=>⟨zero_w32,fun b=>by rw [Nat.zero_testBit,decide_eq_false (by omega)];rfl⟩
theorem WB.nil:WB n F 0 0 (fun _=>0):=fun a _=>⟨zero_w32,fun b=>by rw [Nat.zero_testBit,decide_eq_false (by omega)];rfl⟩
theorem WA.skip(h:WA n F K L f)(hF:F K L=false):WA n F K (L+1) f:=fun a ha=>⟨(h a ha).1,fun b=>by
rw [(h a ha).2]
by_cases e:a=K∧b=L
·obtain⟨rfl,rfl⟩:=e
 rw [hF];simp
·congr 1
 exact decide_eq_decide.2 (by omega)⟩
theorem WB.skip(h:WB n F K L f)(hF:F K L=false):WB n F K (L+1) f:=fun b hb=>⟨(h b hb).1,fun a=>by
rw [(h b hb).2]
by_cases e:a=K∧b=L
·obtain⟨rfl,rfl⟩:=e
 rw [hF];simp
·congr 1
 exact decide_eq_decide.2 (by omega)⟩
theorem WA.put(h:WA n F K L f)(hF:F K L=true)(hn:n≤32)(hK:K<n)(hL:L<n):WA n F K (L+1) (upd f K (f K|||bitN L)):=fun a ha=>by
 unfold upd
 by_cases e:a=K
 ·subst e
  rw [if_pos rfl];refine⟨or_w32 (h a ha).1 (bit_w32 (by omega)),fun b=>?_⟩;rw [or_bit,(h a ha).2]
  by_cases q:L=b
  ·subst q
   rw [hF,decide_eq_true (show(a<a∧L<n)∨(a=a∧L<L+1)from .inr ⟨rfl,by omega⟩)];simp
  ·rw [decide_eq_false q,Bool.or_false]
   congr 1
   exact decide_eq_decide.2 (by omega)
 ·rw [if_neg e]
  refine⟨(h a ha).1,fun b=>?_⟩;rw [(h a ha).2]
  congr 1
  exact decide_eq_decide.2 (by omega)
theorem WB.put(h:WB n F K L f)(hF:F K L=true)(hn:n≤32)(hK:K<n)(hL:L<n):WB n F K (L+1) (upd f L (f L|||bitN K)):=fun b hb=>by
 unfold upd
 by_cases e:b=L
 ·subst e
  rw [if_pos rfl];refine⟨or_w32 (h b hb).1 (bit_w32 (by omega)),fun a=>?_⟩;rw [or_bit,(h b hb).2]
  by_cases q:K=a
  ·subst q
   rw [hF,decide_eq_true (show K<K∨(K=K∧b<b+1)from .inr ⟨rfl,by omega⟩)];simp
  ·rw [decide_eq_false q,Bool.or_false]
   congr 1
   exact decide_eq_decide.2 (by omega)
 ·rw [if_neg e]
  refine⟨(h b hb).1,fun a=>?_⟩;rw [(h b hb).2]
  congr 1
  exact decide_eq_decide.2 (by omega)
theorem WA.next(h:WA n F K n f):WA n F (K+1) 0 f:=fun a ha=>⟨(h a ha).1,fun b=>by
rw [(h a ha).2]
congr 1
exact decide_eq_decide.2 (by omega)⟩
theorem WB.next(h:WB n F K n f):WB n F (K+1) 0 f:=fun b hb=>⟨(h b hb).1,fun a=>by
rw [(h b hb).2]
congr 1
exact decide_eq_decide.2 (by omega)⟩
theorem WA.fin(h:WA n F n 0 f):Wds n F f:=fun a ha=>⟨(h a ha).1,fun b=>by
rw [(h a ha).2]
congr 1
exact decide_eq_decide.2 (by omega)⟩
theorem WB.fin(h:WB n F n 0 f):Wds n (flp F) f:=fun b hb=>⟨(h b hb).1,fun a=>by
rw [(h b hb).2];unfold flp
congr 1
exact decide_eq_decide.2 (by omega)⟩
end
abbrev OwnU(w:World)(base B n:Nat)(f:Nat→Nat):Prop:=w.ownsRow base 277 1 (.slice (some ⟨B,0,none⟩) n n) n (uv n f)
theorem OwnU.cell{w:World}{base B n:Nat}{f:Nat→Nat}(ow:OwnU w base B n f){i:Nat}(hi:i<n):w.cell? ⟨B,i,none⟩=some (.int .u32 (f i:Nat)):=(World.ownsRow.cellAt ow i (by omega)).trans (uv_get n f hi)
theorem OwnU.put{w:World}{base B n:Nat}{f:Nat→Nat}(ow:OwnU w base B n f)(i y:Nat):OwnU (w.setCell ⟨B,i,none⟩ (.int .u32 (y:Nat))) base B n (upd f i y)∧w.grownBy (w.setCell ⟨B,i,none⟩ (.int .u32 (y:Nat))) (some B):=by
 obtain⟨h1,h2⟩:=World.ownsRow.stored ow i (.int .u32 (y:Nat));rw [uv_set]at h1;exact⟨h1,h2⟩
theorem OwnU.lt{w:World}{base B n:Nat}{f:Nat→Nat}(ow:OwnU w base B n f)(hn:0<n):B<w.heap.size:=by
 obtain⟨g,c,e,-,hg,-⟩:=own_at ow hn;simp only[Value.slice.injEq,Option.some.injEq,Addr.mk.injEq]at e;rw [e.1.1];exact hg
theorem OwnU.kept{w w':World}{base B B' n:Nat}{f:Nat→Nat}(ow:OwnU w base B n f)(h:w.grownBy w' (some B'))(hne:B≠B'):OwnU w' base B n f:=World.ownsRow.kept ow h (.inr (by simpa [Value.ownBlock]using hne))
theorem latbounds_calls (n:Nat) (Q:List (Nat×Nat)) (hQ:InR n Q) (h0:0<n) (hn:n≤32) (F:Nat→Nat→Bool) (hF:∀a b:Nat,a<n→b<n→hasQ Q (a:Nat) (b:Nat)=F a b) (v:Value) (w:World) (h:RelP w v n Q) (R:Ending→World→Prop)
  (hR:Hid (∀g1 g2 f1 f2 w',Wds n F f1→Wds n (flp F) f2→w.heap.size≤g1→w.heap.size≤g2→(OwnU w' g1 g1 n f1)→(OwnU w' g2 g2 n f2)→Below w.heap.size w w'→R (.returned (.tuple #[.slice (some ⟨g1,0,none⟩) n n,.slice (some ⟨g2,0,none⟩) n n])) w')):Calls Tryz.prog 191 #[v] w R:=by
 have cL:=Lib.hid fun(W:World) (hb:Below w.heap.size w W) R hR=>rellenx_calls n Q v W (h.below hb) R hR
 have cH:=Lib.hid fun(W:World) (hb:Below w.heap.size w W) (a b:Nat) R hR=>relhasx_calls n Q a b hQ (by omega) v W (h.below hb) R hR
 obtain⟨p,rfl⟩:=h.ptr;obtain⟨M,hM,hmk⟩:=mk_u32 n (by omega);have oA:=own_made (n:=n) (w:=w) (t:=277) hM (uv_len _ _) (by unfold maxLen;omega)
 have oB:=own_made (n:=n) (w:=w.alloc (.cells M 277)) (t:=277) hM (uv_len _ _) (by unfold maxLen;omega)
 have nb1:=(Below.refl w.heap.size w).alloc (Nat.le_refl _) (.cells M 277);have nb2:=nb1.alloc (by simp) (.cells M 277);have oA2:=Lib.hid (own_below oA ((Below.refl _ _).alloc (Nat.le_refl _) (.cells M 277)));have z1:(w.alloc (.cells M 277)).heap.size=w.heap.size+1:=by simp
 rw [z1]at oB;have cL1:=Lib.hid fun R hR=>cL.out w (Below.refl _ _) R hR
 have cL2:=Lib.hid fun R hR=>cL.out _ nb1 R hR
 replace oB:=Lib.hid oB;replace nb1:=Lib.hid nb1;replace nb2:=Lib.hid nb2;replace z1:=Lib.hid z1;replace hF:=Lib.hid hF;clear oA h hQ;go_enter Tryz.func191,Tryz.ntmps191
 go_wp2_with fail
 refine cL1.out _ (Lib.hid ?_);go_wp2_with fail
 refine cL2.out _ (Lib.hid ?_);go_wp2_with fail
 go_loopg [14] n (fun g i wr=>∃(K:Nat) (f1 f2:Nat→Nat),i=.int .i64 K∧K+g=n∧Hid (Below w.heap.size w wr)∧Hid (OwnU wr w.heap.size w.heap.size n f1)∧Hid (OwnU wr (w.heap.size+1) (w.heap.size+1) n f2)∧Hid (WA n F K 0 f1)∧Hid (WB n F K 0 f2))
 case atStart=>exact⟨0,_,_,rfl,by omega,nb2,oA2,oB,Lib.hid WA.nil,Lib.hid WB.nil⟩
 case round =>
  obtain⟨K,f1,f2,rfl,c1,nb,o1,o2,a1,a2⟩:=hrel;clear nb1 nb2 oA2 oB cL1 cL2
  by_cases hK:K<n
  ·obtain⟨kO,rfl⟩:∃k,gk=k+1:=⟨gk-1,by omega⟩
   go_wp2_with fail
   go_loopg [19] n (fun g i wr=>∃(L:Nat) (f1 f2:Nat→Nat),i=.int .i64 L∧L+g=n∧Hid (Below w.heap.size w wr)∧Hid (OwnU wr w.heap.size w.heap.size n f1)∧Hid (OwnU wr (w.heap.size+1) (w.heap.size+1) n f2)∧Hid (WA n F K L f1)∧Hid (WB n F K L f2))
   case atStart=>exact⟨0,f1,f2,rfl,by omega,nb,o1,o2,a1,a2⟩
   case round =>
    clear nb o1 o2 a1 a2 f1 f2;obtain⟨L,f1,f2,rfl,d1,nb,o1,o2,a1,a2⟩:=hrel
    by_cases hL:L<n
    ·have cq:=cH.out wr nb.out K L
     rw [hF.out K L hK hL]at cq;cases e:F K L
     ·rw [e]at cq
      replace cq:=Lib.hid cq;have p1:=Lib.hid (a1.out.skip e);have p2:=Lib.hid (a2.out.skip e);clear e a1 a2;go_wp2_with fail
      refine cq.out _ (Lib.hid fun m=>?_);have bm:=below_drewN (Below.refl wr.heap.size wr) m;have q1:=Lib.hid (own_below o1.out bm);have q2:=Lib.hid (own_below o2.out bm);have nb3:=Lib.hid (below_drewN nb.out m);clear bm o1 o2 nb;go_wp2_with fail
      go_roundg (gk-1)
      case measure=>omega
      case rel=>exact⟨L+1,f1,f2,by go_num,by omega,nb3,q1,q2,p1,p2⟩
     ·rw [e]at cq
      replace cq:=Lib.hid cq;have p1:=Lib.hid (a1.out.put e hn hK hL);have p2:=Lib.hid (a2.out.put e hn hK hL);have w1:=(a1.out K hK).1;have w2:=(a2.out L hL).1;have e1:=bits_or32 w1 (bit_w32 (show L<32 by omega));have e2:=bits_or32 w2 (bit_w32 (show K<32 by omega));have e3:=wrap_bit32 (show L<32 by omega);have e4:=wrap_bit32 (show K<32 by omega);replace e1:=Lib.hid e1;replace e2:=Lib.hid e2;replace e3:=Lib.hid e3;replace e4:=Lib.hid e4;clear e a1 a2 w1 w2;go_wp2_with fail
      refine cq.out _ (Lib.hid fun m=>?_);have bm:=below_drewN (Below.refl wr.heap.size wr) m;have q1:=own_below o1.out bm;have q2:=own_below o2.out bm;have nb3:=below_drewN nb.out m;clear bm o1 o2 nb;generalize wr.drewN m=W1 at *;have r1:=OwnU.cell q1 hK;have r2:=World.ownsRow.frozenAt q1 K;replace q1:=Lib.hid q1;replace q2:=Lib.hid q2;replace nb3:=Lib.hid nb3;have ik0:(0:Int)≤(K:Int):=by omega
      have ik1:(K:Int)<(n:Int):=by omega
      have il0:(0:Int)≤(L:Int):=by omega
      have il1:(L:Int)<(n:Int):=by omega
      have mL:min L 32=L:=by omega
      have mK:min K 32=K:=by omega
      go_wp2_with fail
      replace e1:=e1.out;replace e3:=e3.out;go_still_tail 8,(by kernel_rfl)
      repeat still_step
      change wpList _ _ _ _ _ W1.drew
      have q1d:=q1.out.drew;have q2d:=q2.out.drew;have nbd:=nb3.out.drew;clear r1 r2 q1 q2 nb3 e1 e3 mL;have r3:=World.ownsRow.frozenAt q1d K;have r4:=OwnU.cell q1d hK;obtain⟨o4,g4⟩:=OwnU.put q1d K (f1 K|||bitN L);have o5:=OwnU.kept q2d g4 (by omega);have n4:=nbd.trans (below_of_grown g4 (Nat.le_refl _) nbd.size);replace o4:=Lib.hid o4;replace n4:=Lib.hid n4;replace o5:=Lib.hid o5;clear g4 q1d q2d nbd;generalize W1.drew=W2 at *;generalize f1 K|||bitN L=y1 at *;go_wp2_with fail
      clear r3 r4;generalize W2.setCell ⟨w.heap.size,K,none⟩ (.int .u32 (y1:Nat))=W3 at *;have r1:=OwnU.cell o5.out hL;have r2:=World.ownsRow.frozenAt o5.out L;replace e2:=e2.out;replace e4:=e4.out;go_still_tail 8,(by kernel_rfl)
      repeat still_step
      change wpList _ _ _ _ _ W3.drew
      have q1d:=o4.out.drew;have q2d:=o5.out.drew;have nbd:=n4.out.drew;clear r1 r2 o4 o5 n4 e2 e4 mK;have r3:=World.ownsRow.frozenAt q2d L;have r4:=OwnU.cell q2d hL;obtain⟨o6,g6⟩:=OwnU.put q2d L (f2 L|||bitN K);have o7:=OwnU.kept q1d g6 (by omega);have n6:=nbd.trans (below_of_grown g6 (by omega) nbd.size);replace o6:=Lib.hid o6;replace n6:=Lib.hid n6;replace o7:=Lib.hid o7;clear g6 q1d q2d nbd;generalize W3.drew=W4 at *;generalize f2 L|||bitN K=y2 at *;go_wp2_with fail
      go_roundg (gk-1)
      case measure=>omega
      case rel=>exact⟨L+1,_,_,by go_num,by omega,n6,o7,o6,p1,p2⟩
    ·obtain rfl:L=n:=by omega
     go_wp2_with fail
     go_roundg kO
     case measure=>omega
     case rel=>exact⟨K+1,f1,f2,by go_num,by omega,nb,o1,o2,Lib.hid a1.out.next,Lib.hid a2.out.next⟩
  ·obtain rfl:K=n:=by omega
   have fin:=Lib.hid (hR.out _ _ f1 f2 _ a1.out.fin a2.out.fin (Nat.le_refl _) (by omega) o1.out o2.out nb.out);clear nb o1 o2 a1 a2 cH;go_wp2_with fail
   exact fin.out
theorem OwnL.lt{w:World}{base B:Nat}{v1 v2:Value}{h:Nat→Int}(ow:OwnL w base B v1 v2 h):B<w.heap.size:=by
 obtain⟨g,c,e,-,hg,-⟩:=own_at ow (by omega);simp only[Value.slice.injEq,Option.some.injEq,Addr.mk.injEq]at e;rw [e.1.1];exact hg
theorem join_lt{n:Nat}{F:Nat→Nat→Bool}{a b:Nat}(h:0≤joinS n F a b):∃k:Nat,k<n∧joinS n F a b=k:=by
 rcases join_cases n F a b with⟨q,-⟩|⟨m,h1,-,h3⟩
 ·omega
 ·exact⟨m,h1,h3⟩
theorem noB_is{n:Nat}{F:Nat→Nat→Bool}{a b:Nat}:noB n F a b=(decide (joinS n F a b<0)||decide (joinS n (flp F) a b<0)):=by
 unfold noB;rw [join_comm n F a b,join_comm n (flp F) a b]
theorem idx32_quiet(n:Nat)(f:Nat→Nat)(g c:Nat)(y:Nat)(V:Int)(hV:idxN f n y=V)(w:World)(hn:n≤32)(hca:∀i,i<n→w.cell? ⟨g,i,none⟩=some (.int .u32 (f i:Nat)))(m:Nat) :
 Calls Tryz.prog 192 #[.slice (some ⟨g,0,none⟩) n c,.int .u32 (y:Nat)] (w.drewN m) fun e w'=>e=.returned (.int .i64 V)∧w'=w.drewN m :=
idx32_calls n f g c y (w.drewN m) hn hca _ (Lib.hid ⟨by rw [hV],rfl⟩)
theorem latfill_calls (n:Nat) (Q:List (Nat×Nat)) (hQ:InR n Q) (h0:0<n) (hn:n≤32) (F:Nat→Nat→Bool) (hF:∀a b:Nat,a<n→b<n→hasQ Q (a:Nat) (b:Nat)=F a b) (hO:Ordr n F) (base B:Nat) (v1 v2:Value) (v:Value) (w:World) (h:RelP w v n Q) (ow:OwnL w base B v1 v2 (fun _=>0)) (R:Ending→World→Prop)
  (hR:Hid (∀w' h,OwnL w' base B v1 v2 h→FilM 0 (joinS n F) n 0 h→FilM 1024 (joinS n (flp F)) n 0 h→(∀b,b<n→bnB n F b=false)→Below B w w'→R (.returned (.tuple #[.int .i64 0,.bool true])) w'))
  (hR2:Hid (∀(a:Nat) w',a<n→bnB n F a=true→(∀b,b<a→bnB n F b=false)→Below B w w'→R (.returned (.tuple #[.int .i64 (a:Nat),.bool false])) w')):Calls Tryz.prog 126 #[.pointer (some ⟨B,0,none⟩),v] w R:=by
 have cB:=Lib.hid fun R hR=>latbounds_calls n Q hQ h0 hn F hF v w h R hR
 have cL:=Lib.hid fun(W:World) (hb:Below w.heap.size w W) R hR=>rellenx_calls n Q v W (h.below hb) R hR
 obtain⟨pr,rfl⟩:=h.ptr;have hB:=ow.lt;replace ow:=Lib.hid ow;replace hO:=Lib.hid hO;clear h hF hQ;go_enter Tryz.func126,Tryz.ntmps126
 go_wp2_with fail
 refine cB.out _ (Lib.hid fun g1 g2 f1 f2 w1 d1 d2 l1 l2 o1 o2 n1=>?_);have cL1:=Lib.hid fun R hR=>cL.out w1 n1 R hR
 have k1:=Lib.hid fun i (hi:i<n)=>o1.cell hi
 have k2:=Lib.hid fun i (hi:i<n)=>o2.cell hi
 have t1:=o1.lt h0;have t2:=o2.lt h0;have ow1:=Lib.hid (own_below ow.out n1);have nb1:=Lib.hid (n1.mono (Nat.le_of_lt hB));have hd1:=Lib.hid fun a b (ha:a<n) (hb:b<n)=>idx_join d1 hO.out ha hb
 have hd2:=Lib.hid fun a b (ha:a<n) (hb:b<n)=>idx_join d2 hO.out.flip ha hb
 have hw1:=Lib.hid fun a (ha:a<n)=>(d1 a ha).1
 have hw2:=Lib.hid fun a (ha:a<n)=>(d2 a ha).1
 have hself:=Lib.hid fun a (ha:a<n)=>join_self hO.out ha
 have hself2:=Lib.hid fun a (ha:a<n)=>join_self hO.out.flip ha
 have x1:g1≠B:=by omega
 have x2:g2≠B:=by omega
 clear o1 o2 d1 d2 n1 ow cB cL hO;go_wp2_with fail
 refine cL1.out _ (Lib.hid ?_);clear cL1;go_wp2_with fail
 go_loopg [19] n (fun g i wr=>∃(K:Nat) (h:Nat→Int),i=.int .i64 K∧K+g=n∧Hid (Below B w wr)∧Hid (OwnL wr base B v1 v2 h)∧Hid (∀i,i<n→wr.cell? ⟨g1,i,none⟩=some (.int .u32 (f1 i:Nat)))∧Hid (∀i,i<n→wr.cell? ⟨g2,i,none⟩=some (.int .u32 (f2 i:Nat)))∧g1<wr.heap.size∧g2<wr.heap.size ∧
  Hid (FilM 0 (joinS n F) K 0 h)∧Hid (FilM 1024 (joinS n (flp F)) K 0 h)∧Hid (∀b,b<K→bnB n F b=false))
 case atStart=>exact⟨0,_,rfl,by omega,nb1,ow1,k1,k2,t1,t2,Lib.hid FilM.nil,Lib.hid FilM.nil,Lib.hid fun b h=>by omega⟩
 case round =>
  clear nb1 ow1 k1 k2 t1 t2;obtain⟨K,h,rfl,c1,nb,ow,k1,k2,t1,t2,m1,m2,hb⟩:=hrel
  by_cases hK:K<n
  ·obtain⟨kO,rfl⟩:∃k,gk=k+1:=⟨gk-1,by omega⟩
   go_wp2_with fail
   go_loopg [24] (K+1) (fun g i wr=>∃(L:Nat) (h:Nat→Int),i=.int .i64 L∧L+g=K+1∧Hid (Below B w wr)∧Hid (OwnL wr base B v1 v2 h)∧Hid (∀i,i<n→wr.cell? ⟨g1,i,none⟩=some (.int .u32 (f1 i:Nat)))∧Hid (∀i,i<n→wr.cell? ⟨g2,i,none⟩=some (.int .u32 (f2 i:Nat)))∧g1<wr.heap.size∧g2<wr.heap.size ∧
    Hid (FilM 0 (joinS n F) K L h)∧Hid (FilM 1024 (joinS n (flp F)) K L h)∧Hid (∀b,b<L→noB n F K b=false))
   case atStart=>exact⟨0,h,rfl,by omega,nb,ow,k1,k2,t1,t2,m1,m2,Lib.hid fun b h=>by omega⟩
   case round =>
    clear nb ow k1 k2 t1 t2 m1 m2 h;obtain⟨L,h,rfl,d1,nb,ow,k1,k2,t1,t2,m1,m2,hl⟩:=hrel
    by_cases hL:L<K+1
    ·have hLn:L<n:=by omega
     have e0:=k1.out K hK;have e1:=k1.out L hLn;have eA:=bits_and32 (hw1.out K hK) (hw1.out L hLn);have eV:=hd1.out K L hK hLn;obtain⟨y,hy⟩:∃y,f1 K&&&f1 L=y:=⟨_,rfl⟩;rw [hy]at eA eV;have cX:=Lib.hid fun m=>idx32_quiet n f1 g1 n y _ eV wr hn k1.out m
     have ik0:(0:Int)≤(K:Int):=by omega
     have ik1:(K:Int)<(n:Int):=by omega
     have il0:(0:Int)≤(L:Int):=by omega
     have il1:(L:Int)<(n:Int):=by omega
     replace hy:=Lib.hid hy;replace eV:=Lib.hid eV;generalize f1 K=y1 at *;generalize f1 L=y2 at *;go_wp2_with fail
     go_quiet (with_reducible exact Calls.quiet_of_same (cX.out _));have bm:=below_drewN (Below.refl wr.heap.size wr) nq
     have nb3:=Lib.hid (below_drewN nb.out nq);have ow3:=Lib.hid (own_below ow.out bm);have k3:=Lib.hid fun i (hi:i<n)=>(bm.cell (p:=⟨g1,i,none⟩) t1).trans (k1.out i hi)
     have k4:=Lib.hid fun i (hi:i<n)=>(bm.cell (p:=⟨g2,i,none⟩) t2).trans (k2.out i hi)
     have t3:=Nat.lt_of_lt_of_le t1 bm.size;have t4:=Nat.lt_of_lt_of_le t2 bm.size;clear bm nb ow k1 k2 t1 t2 cX eA eV hy e0 e1;generalize wr.drewN nq=W1 at *;have e0:=k4.out K hK;have e1:=k4.out L hLn;have eA:=bits_and32 (hw2.out K hK) (hw2.out L hLn);have eV:=hd2.out K L hK hLn;obtain⟨z,hz⟩:∃z,f2 K&&&f2 L=z:=⟨_,rfl⟩;rw [hz]at eA eV;have cX:=Lib.hid fun m=>idx32_quiet n f2 g2 n z _ eV W1 hn k4.out m
     replace hz:=Lib.hid hz;replace eV:=Lib.hid eV;generalize f2 K=z1 at *;generalize f2 L=z2 at *;go_wp2_with fail
     go_quiet (with_reducible exact Calls.quiet_of_same (cX.out _));have bm:=below_drewN (Below.refl W1.heap.size W1) nq
     have nb:=Lib.hid (below_drewN nb3.out nq);have ow:=own_below ow3.out bm;have k1:=fun i (hi:i<n)=>(bm.cell (p:=⟨g1,i,none⟩) t3).trans (k3.out i hi)
     have k2:=fun i (hi:i<n)=>(bm.cell (p:=⟨g2,i,none⟩) t4).trans (k4.out i hi)
     have t1:=Nat.lt_of_lt_of_le t3 bm.size;have t2:=Nat.lt_of_lt_of_le t4 bm.size;clear bm nb3 ow3 k3 k4 t3 t4 cX eA eV hz e0 e1;generalize W1.drewN nq=W2 at *;have hno:noB n F K L=(decide (joinS n F K L<0)||decide (joinS n (flp F) K L<0)):=noB_is
     have hs1:L=K→0≤joinS n F K L∧0≤joinS n (flp F) K L:=fun e=>by
      subst e;rw [hself.out L hK,hself2.out L hK];omega
     have hbad:noB n F K L=true→L≠K→R (.returned (.tuple #[.int .i64 (K:Nat),.bool false])) W2:=fun q1 q2 =>
      hR2.out K W2 hK (List.any_eq_true.2 ⟨L,List.mem_range.2 (by omega),q1⟩) hb.out nb.out
     by_cases j0:joinS n F K L<0
     ·have fin:=Lib.hid (hbad (by rw [hno,decide_eq_true j0];rfl) (fun e=>by have:=(hs1 e).1;omega))
      clear hno hs1 hbad ow k1 k2;generalize joinS n F K L=j at *;generalize joinS n (flp F) K L=m at *;go_wp2_with fail
      exact fin.out
     ·by_cases j1:joinS n (flp F) K L<0
      ·have fin:=Lib.hid (hbad (by rw [hno,decide_eq_true j1,Bool.or_true]) (fun e=>by have:=(hs1 e).2;omega))
       clear hno hs1 hbad ow k1 k2;generalize joinS n F K L=j at *;generalize joinS n (flp F) K L=m at *;go_wp2_with fail
       exact fin.out
      ·have hlN:∀b,b<L+1→noB n F K b=false:=fun b hb=>by
        rcases Nat.eq_or_lt_of_le (Nat.le_of_lt_succ hb)with e|q
        ·subst e;rw [hno,decide_eq_false j0,decide_eq_false j1];rfl
        ·exact hl.out b q
       obtain⟨j,jl,ej⟩:=join_lt (Int.not_lt.1 j0);obtain⟨m,ml,em⟩:=join_lt (Int.not_lt.1 j1);have p1:=m1.out.put (join_comm n F) (show K<32 by omega) (show L≤K by omega);have p2:=m2.out.far (q:=0) (y:=joinS n F K L) (show K<32 by omega) (show L<32 by omega) (by omega);have p3:=p2.put (join_comm n (flp F)) (show K<32 by omega) (show L≤K by omega);have p4:=p1.far (q:=1024) (y:=joinS n (flp F) K L) (show K<32 by omega) (show L<32 by omega) (by omega);rw [ej,em]at p3 p4;rw [ej,em];have cS:=fun R hR=>latset_calls base B v1 v2 h W2 ow 0 2 rfl (.inl rfl) K L j (by omega) (by omega) (by omega) R hR
       have cS2:=Lib.hid fun(W:World) ow R hR=>latset_calls base B v1 v2 (setZ h 0 K L j) W ow 1024 1026 rfl (.inr rfl) K L m (by omega) (by omega) (by omega) R hR
       replace p3:=Lib.hid p3;replace p4:=Lib.hid p4;replace cS:=Lib.hid cS;replace hlN:=Lib.hid hlN;replace k1:=Lib.hid k1;replace k2:=Lib.hid k2;clear p1 p2 ej em hno hs1 hbad ow hl m1 m2 j0 j1;go_wp2_with fail
       refine cS.out _ (Lib.hid fun W3 o3 g3=>?_);have y1':=Lib.hid fun i (hi:i<n)=>grown_cell g3 t1 x1 (k1.out i hi)
       have y2':=Lib.hid fun i (hi:i<n)=>grown_cell g3 t2 x2 (k2.out i hi)
       have nb4:=Lib.hid (nb.out.trans (below_of_grown g3 (Nat.le_refl _) (Nat.le_trans (Nat.le_of_lt hB) nb.out.size)));have t3:=Nat.lt_of_lt_of_le t1 g3.size;have t4:=Nat.lt_of_lt_of_le t2 g3.size;replace o3:=Lib.hid o3;clear cS k1 k2 nb t1 t2 g3;go_wp2_with fail
       refine cS2.out _ o3.out _ (Lib.hid fun W4 o4 g4=>?_);have k1:=Lib.hid fun i (hi:i<n)=>grown_cell g4 t3 x1 (y1'.out i hi)
       have k2:=Lib.hid fun i (hi:i<n)=>grown_cell g4 t4 x2 (y2'.out i hi)
       have nb:=Lib.hid (nb4.out.trans (below_of_grown g4 (Nat.le_refl _) (Nat.le_trans (Nat.le_of_lt hB) nb4.out.size)));have t1:=Nat.lt_of_lt_of_le t3 g4.size;have t2:=Nat.lt_of_lt_of_le t4 g4.size;replace o4:=Lib.hid o4;clear cS2 y1' y2' nb4 t3 t4 g4 o3;go_wp2_with fail
       go_roundg (gk-1)
       case measure=>omega
       case rel=>exact⟨L+1,_,by go_num,by omega,nb,o4,k1,k2,t1,t2,p4,p3,hlN⟩
    ·obtain rfl:L=K+1:=by omega
     go_wp2_with fail
     go_roundg kO
     case measure=>omega
     case rel=>exact⟨K+1,h,by go_num,by omega,nb,ow,k1,k2,t1,t2,Lib.hid m1.out.next,Lib.hid m2.out.next,Lib.hid fun b q=>by
      rcases Nat.eq_or_lt_of_le (Nat.le_of_lt_succ q)with e|q
      ·subst e
       cases e:bnB n F b
       ·rfl
       ·obtain⟨x,hx,hx2⟩:=List.any_eq_true.1 e
        rw [hl.out x (by have:=List.mem_range.1 hx;omega)]at hx2
        cases hx2
      ·exact hb.out b q⟩
  ·obtain rfl:K=n:=by omega
   have fin:=Lib.hid (hR.out _ h ow.out m1.out m2.out hb.out nb.out);clear nb ow k1 k2 m1 m2;go_wp2_with fail
   exact fin.out
end Go.Proofs.YtabhkakomececaaGreat.Lat
