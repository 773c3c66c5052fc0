/-
  Dfs Texts TreeBox SpecEqual SpecTree SpecTree2 PtrMap Nd TreeTo PairMap
-/
import Derived.Test.YtbigfeblomfflaaGreatDoorB2
import Derived.Deep.RegionHeld3
set_option maxHeartbeats 1000000
namespace Go.Proofs.YtbigfeblomfflaaGreatDoor.Dfs
open Tree
theorem sizes_drop (ks:List E) (i:Nat) (h:i<ks.length):sizes (ks.drop i)=size ks[i]+sizes (ks.drop (i+1)):=by rw[List.drop_eq_getElem_cons h,sizes]
theorem size_mk (e:E):size e=sizes e.kids+1:=by cases e with|mk k t n ns ks=>rw[size];rfl
theorem depth_mk (e:E):depth e=depths e.kids+1:=by cases e with|mk k t n ns ks=>rw[depth];rfl
theorem size_pos (e:E):0<size e:=by rw[size_mk];omega
theorem kid_lt (e:E) (i:Nat) (h:i<e.kids.length):size e.kids[i]<size e:=by have:=size_kid e.kids i h;rw[size_mk e];omega
def ext (e:E):Value:=.agg #[.int .i64 (size e),.int .i64 (depth e)]
section
variable {A:Type} (N:A->Prop) (T:A->E) (kid:A->Nat->A) (root:A) (M:A->Option Value)
def Done (x:A):Prop:=N x/\M x=some (ext (T x))
def Rest:A->List (A×Nat)->Prop
 | c,[]=>c=root
 | c,(a,i)::q=>N a/\i<(T a).kids.length/\c=kid a i/\(∀ k,k<i->Done N T M (kid a k))/\Rest a q
def Inv (q:List (A×Nat)):Prop:=
 (∀ x v,M x=some v->Done N T M x\/∃ i,(x,i)∈q) /\
 match q with
 | []=>Done N T M root
 | (a,i)::q=>N a/\i<=(T a).kids.length/\(∀ k,k<i->Done N T M (kid a k))/\∃ p,Rest N T kid root M a p/\q=p.map fun x=>(x.1,x.2+1)
def mu:List (A×Nat)->Nat
 | []=>0
 | (a,i)::q=>1+2*sizes ((T a).kids.drop i)+mu q
variable {N T kid root M}
def Kids (N:A->Prop) (T:A->E) (kid:A->Nat->A):Prop:=∀ a i,N a->i<(T a).kids.length->N (kid a i)/\T (kid a i)=(T a).kids[i]!
theorem kid_size (H:Kids N T kid) {a:A} {i:Nat} (ha:N a) (hi:i<(T a).kids.length):size (T (kid a i))<size (T a):=by rw[(H a i ha hi).2,getElem!_pos _ i hi];exact kid_lt _ _ hi
theorem rest_size (H:Kids N T kid):∀ (q:List (A×Nat)) (c:A),Rest N T kid root M c q->size (T c)+q.length<=size (T root)/\∀ x∈q,size (T c)<size (T x.1)
 | [],c,h=>by have h':c=root:=h;subst h';exact ⟨by simp,fun x hx=>by cases hx⟩
 | (a,i)::q,c,h=>by
  obtain ⟨h1,h2,rfl,_,h5⟩:=h;have h6:=kid_size H h1 h2;obtain ⟨h7,h8⟩:=rest_size H q a h5;refine ⟨by simp;omega,fun x hx=>?_⟩
  rcases List.mem_cons.1 hx with rfl|hx
  ·exact h6
  ·have:=h8 x hx;omega
theorem inv_len (H:Kids N T kid) {a:A} {i:Nat} {q:List (A×Nat)} (h:Inv N T kid root M ((a,i)::q)):q.length+1<=size (T root):=by obtain ⟨_,h1,h2,h3,p,h4,rfl⟩:=h;have:=(rest_size H p a h4).1;have:=size_pos (T a);simp;omega
theorem inv_size (H:Kids N T kid) {a:A} {i:Nat} {q:List (A×Nat)} (h:Inv N T kid root M ((a,i)::q)):size (T a)<=size (T root):=by obtain ⟨_,h1,h2,h3,p,h4,rfl⟩:=h;have:=(rest_size H p a h4).1;omega
theorem done_put [DecidableEq A] {x c:A} {v:Value} (hv:x=c->N c->v=ext (T c)) (h:Done N T M x):Done N T (fun y=>if y=c then some v else M y) x:=by
 refine ⟨h.1,?_⟩;by_cases e:x=c
 ·subst e;simp[hv rfl h.1]
 ·simp[e,h.2]
theorem rest_mono {M':A->Option Value} (hm:∀ x,Done N T M x->Done N T M' x):∀ (q:List (A×Nat)) (c:A),Rest N T kid root M c q->Rest N T kid root M' c q
 | [],_,h=>h
 | (a,_)::q,_,h=>⟨h.1,h.2.1,h.2.2.1,fun k hk=>hm _ (h.2.2.2.1 k hk),rest_mono hm q a h.2.2.2.2⟩
theorem inv_start [DecidableEq A] {v:Value} (hN:N root) (hM:M=fun y=>if y=root then some v else none):Inv N T kid root M [(root,0)]:=by
 subst hM;refine ⟨fun x v hx=>?_,hN,Nat.zero_le _,fun k hk=>by omega,[],rfl,rfl⟩
 by_cases e:x=root
 ·subst e;exact .inr ⟨0,by simp⟩
 ·simp[e] at hx
theorem inv_pop [DecidableEq A] {a:A} {i:Nat} {q:List (A×Nat)} (h:Inv N T kid root M ((a,i)::q)) (hi:i=(T a).kids.length):
  (∀ k,k<(T a).kids.length->M (kid a k)=some (ext (T (kid a k))))/\Inv N T kid root (fun y=>if y=a then some (ext (T a)) else M y) q/\mu T q<mu T ((a,i)::q):=by
 obtain ⟨h0,h1,h2,h3,p,h4,rfl⟩:=h;refine ⟨fun k hk=>(h3 k (by omega)).2,⟨fun x v hx=>?_,?_⟩,by simp only[mu];omega⟩
 ·by_cases e:x=a
  ·subst e;exact .inl ⟨h1,by simp⟩
  ·simp only[e,if_false] at hx
   rcases h0 x v hx with hd|⟨j,hj⟩
   ·exact .inl (done_put (fun _ _=>rfl) hd)
   ·rcases List.mem_cons.1 hj with hj|hj
    ·cases hj;exact absurd rfl e
    ·exact .inr ⟨j,hj⟩
 ·have hdone:∀ x,Done N T M x->Done N T (fun y=>if y=a then some (ext (T a)) else M y) x:=fun x hx=>done_put (fun _ _=>rfl) hx
  cases p with
  | nil=>have h4':a=root:=h4;subst h4';exact ⟨h1,by simp⟩
  | cons y p=>
   obtain ⟨b,j⟩:=y;obtain ⟨g1,g2,g3,g4,g5⟩:=h4;refine ⟨g1,g2,fun k hk=>?_,p,rest_mono hdone p b g5,rfl⟩
   by_cases e:k=j
   ·subst e;rw[<-g3];exact ⟨h1,by simp⟩
   ·exact hdone _ (g4 k (by omega))
theorem inv_push [DecidableEq A] (H:Kids N T kid) {a:A} {i:Nat} {q:List (A×Nat)} {v:Value} (h:Inv N T kid root M ((a,i)::q)) (hi:i<(T a).kids.length) (hM:M (kid a i)=none):
  Inv N T kid root (fun y=>if y=kid a i then some v else M y) ((kid a i,0)::(a,i+1)::q)/\mu T ((kid a i,0)::(a,i+1)::q)<mu T ((a,i)::q):=by
 obtain ⟨h0,h1,h2,h3,p,h4,rfl⟩:=h;obtain ⟨k1,k2⟩:=H a i h1 hi
 have hdone:∀ x,Done N T M x->Done N T (fun y=>if y=kid a i then some v else M y) x:=fun x hx=>by
  have:x≠kid a i:=fun e=>by subst e;have h9:=hx.2;rw[hM] at h9;cases h9
  exact ⟨hx.1,by simp[this,hx.2]⟩
 refine ⟨⟨fun x u hx=>?_,k1,Nat.zero_le _,fun k hk=>by omega,(a,i)::p,⟨h1,hi,rfl,fun k hk=>hdone _ (h3 k hk),rest_mono hdone p a h4⟩,by simp⟩,?_⟩
 ·by_cases e:x=kid a i
  ·subst e;exact .inr ⟨0,by simp⟩
  ·simp only[e,if_false] at hx
   rcases h0 x u hx with hd|⟨j,hj⟩
   ·exact .inl (hdone _ hd)
   ·rcases List.mem_cons.1 hj with hj|hj
    ·cases hj;exact .inr ⟨i+1,by simp⟩
    ·exact .inr ⟨j,by simp[hj]⟩
 ·simp only[mu,k2,List.drop_zero]
  rw[sizes_drop _ i hi,getElem!_pos _ i hi,size_mk (T a).kids[i]];omega
theorem inv_skip (H:Kids N T kid) {a:A} {i:Nat} {q:List (A×Nat)} {v:Value} (h:Inv N T kid root M ((a,i)::q)) (hi:i<(T a).kids.length) (hM:M (kid a i)=some v):
  v=ext (T (kid a i))/\Inv N T kid root M ((a,i+1)::q)/\mu T ((a,i+1)::q)<mu T ((a,i)::q):=by
 obtain ⟨h0,h1,h2,h3,p,h4,rfl⟩:=h;have hs:=kid_size H h1 hi
 have hd:Done N T M (kid a i):=by
  rcases h0 _ v hM with hd|⟨j,hj⟩
  ·exact hd
  ·rcases List.mem_cons.1 hj with hj|hj
   ·simp only[Prod.mk.injEq] at hj;rw[hj.1] at hs;omega
   ·obtain ⟨y,hy,hyj⟩:=List.mem_map.1 hj
    have:=(rest_size H p a h4).2 y hy;simp only[Prod.mk.injEq] at hyj;rw[hyj.1] at this;omega
 refine ⟨by have h9:=hd.2;rw[hM] at h9;exact Option.some.inj h9,⟨fun x u hx=>?_,h1,hi,fun k hk=>?_,p,h4,rfl⟩,?_⟩
 ·rcases h0 x u hx with hd|⟨j,hj⟩
  ·exact .inl hd
  ·rcases List.mem_cons.1 hj with hj|hj
   ·cases hj;exact .inr ⟨i+1,by simp⟩
   ·exact .inr ⟨j,by simp[hj]⟩
 ·by_cases e:k=i
  ·subst e;exact hd
  ·exact h3 k (by omega)
 ·simp only[mu]
  rw[sizes_drop _ i hi];have:=size_pos (T a).kids[i];omega
end
end Go.Proofs.YtbigfeblomfflaaGreatDoor.Dfs
namespace Go.Proofs.YtbigfeblomfflaaGreatDoor
namespace Texts
open Go.RowKit
open Strs Tree
def after (left n:Nat):Int:=if n<=left then ((left-n:Nat):Int) else -1
theorem after_yes {left n:Nat} (h:n<=left):after left n=((left-n:Nat):Int):=if_pos h
theorem after_no {left n:Nat} (h:left<n):after left n = -1:=if_neg (Nat.not_le.2 h)
end Texts
namespace TreeBox
open Go.RowKit
open Strs Tree
structure Cells (B:Nat) (k:Int) (t:ByteArray) (n:Int) (vn vk:Value) (wr:World):Prop where
 size:B<wr.heap.size
 a0:wr.cell? ⟨B,0,none⟩=some (.int .i64 k)
 a1:wr.cell? ⟨B,1,none⟩=some (.string t)
 a2:wr.cell? ⟨B,2,none⟩=some (.int .i64 n)
 a3:wr.cell? ⟨B,3,none⟩=some vn
 a4:wr.cell? ⟨B,4,none⟩=some vk
theorem Cells.step {B:Nat} {k:Int} {t:ByteArray} {n:Int} {vn vk:Value} {wr w':World} (h:Cells B k t n vn vk wr) (hb:Below wr.heap.size wr w'):Cells B k t n vn vk w':=
 ⟨Nat.lt_of_lt_of_le h.size hb.size,cell_keep hb h.a0,cell_keep hb h.a1,cell_keep hb h.a2,cell_keep hb h.a3,cell_keep hb h.a4⟩
theorem za2 (w:World) (k:Int) (t:ByteArray) (n:Int) (vn vk:Value) (T:TypeId):Cells w.heap.size k t n vn vk (w.alloc (Obj.cells #[Value.int IntKind.i64 k,Value.string t,Value.int IntKind.i64 n,vn,vk] T)):=by
 refine ⟨by simp,?_,?_,?_,?_,?_⟩
 all_goals go_simp
end TreeBox
namespace SpecEqual
open Go.RowKit
open Strs Tree TreeBox
theorem beq_no {s t:ByteArray} (h:¬s=t):(s.toList==t.toList)=false:=by
 refine Bool.eq_false_iff.2 fun e=>h ?_
 have e1:=eq_of_beq e;rw[ByteArray.toList_eq,ByteArray.toList_eq] at e1;exact ByteArray.ext (Array.ext' e1)
end SpecEqual
namespace SpecTree
open Go.RowKit
open Strs Tree Texts
structure Arg (w:World) (vn vk:Value) (wr:World):Prop where
 below:Below w.heap.size w wr
 size:w.heap.size+1<=wr.heap.size
 a3:wr.cell? ⟨w.heap.size,3,none⟩=some vn
 a4:wr.cell? ⟨w.heap.size,4,none⟩=some vk
theorem Arg.step {w wr w':World} {vn vk:Value} (h:Arg w vn vk wr) (hb:Below wr.heap.size wr w'):Arg w vn vk w':=
 ⟨h.below.trans (hb.mono (by have:=h.size;omega)),Nat.le_trans h.size hb.size,cell_keep hb h.a3,cell_keep hb h.a4⟩
theorem arg_new (w:World) (k:Int) (t:ByteArray) (n:Int) (vn vk:Value) (T:TypeId):Arg w vn vk (w.alloc (Obj.cells #[Value.int IntKind.i64 k,Value.string t,Value.int IntKind.i64 n,vn,vk] T)):=by
 refine ⟨(zB _ _).alloc (zL _) _,by simp,?_,?_⟩
 all_goals go_simp
theorem max_any (a b:Nat) (w:World):
  Calls Tryz.prog 94 #[.int .i64 a,.int .i64 b] w fun r w'=>r=.returned (.int .i64 (max a b:Nat))/\w=w':=by
 by_cases h:(b:Int)<(a:Int)
 ·rw[show max a b=a by omega]
  go_enter Tryz.func94,Tryz.ntmps94;go_wp2_with fail
  go_ret;exact ⟨rfl,rfl⟩
 ·rw[show max a b=b by omega]
  go_enter Tryz.func94,Tryz.ntmps94;go_wp2_with fail
  go_ret;exact ⟨rfl,rfl⟩
theorem depth_node:∀ e,∀ (lo:Nat) (w:World) (vn vk:Value),depth e<=4611686018427387904->NodeAt lo w e vn vk ->
  Calls Tryz.prog 43 #[.agg #[.int .i64 e.kind,.string e.text,.int .i64 e.num,vn,vk]] w fun r w'=>r=.returned (.int .i64 (depth e))/\Below w.heap.size w w':=by
 refine ind fun k t n ns ks ih=>?_
 intro lo w vn vk hz hnode;rw[zaw] at hnode;obtain ⟨-,-,-,-,hks⟩:=hnode;simp only[E.kind,E.text,E.num,E.kids] at *;obtain ⟨a,cap,rfl,hm,hc⟩:=hks;unfold maxLen at hm;have HS:Hid (depth (.mk k t n ns ks)=depths ks+1):=by show _=_;rw[depth]
 generalize depth (.mk k t n ns ks)=S at *;have HC:=zH hc;clear hc;have IH:=zH ih;clear ih;have HZ:=zH hz;clear hz;generalize hN:ks.length=N at *;have HN:=zH hN;clear hN;have HA:=zH (arg_new w k t n vn (.slice a N cap) 27);go_enter Tryz.func43,Tryz.ntmps43;go_wp2_with fail
 go_loopw [3,4] (fun s j wr=>∃ i q:Nat,i<=N/\j=.int .i64 i/\depths (ks.take i)=q/\s=.int .i64 q/\Arg w vn (.slice a N cap) wr) (fun _ j _=>N-(intOf j).toNat)
 case atStart=>exact ⟨0,0,by omega,rfl,rfl,rfl,HA.out⟩
 case round=>
  obtain ⟨i,q,hi,rfl,hq,rfl,harg⟩:=hrel;have a4:=harg.a4;have HQ:=zH hq;clear hq;have AR:=zH harg;clear harg;by_cases hlt:i<N
  ·have hil:i<ks.length:=by rw[HN.out];exact hlt
   obtain ⟨b,off,rfl,hb,hr⟩:=HC.out (by have:=HN.out;omega);obtain ⟨xn,xk,d0,d1,d2,d3,d4,hnode⟩:=(row_iff ks off).1 hr i hil;have c0:=cell_keep AR.out.below d0;have c1:=cell_keep AR.out.below d1;have c2:=cell_keep AR.out.below d2;have c3:=cell_keep AR.out.below d3;have c4:=cell_keep AR.out.below d4;have hkz:=depth_kid ks i hil;have KI:=zH (IH.out _ (List.getElem_mem hil) lo _ xn xk (by have:=HZ.out;have:=HS.out;omega) (hnode.below AR.out.below))
   have HT:Hid (depths (ks.take (i+1))=max q (depth ks[i])):=by have:=depths_take ks i hil;have:=HQ.out;show _=_;omega
   clear d0 d1 d2 d3 d4 hnode hr hkz;generalize ks[i]=e at *;generalize depth e=z at *;go_wp2_with fail
   refine KI.out.mono ?_;rintro r w1 ⟨rfl,hb1⟩;have AR1:=zH (AR.out.step hb1);clear c0 c1 c2 c3 c4 hb1 AR;go_wp2_with fail
   refine (max_any q z w1).mono ?_;rintro r w2 ⟨rfl,rfl⟩;go_wp2_with fail
   go_roundw
   case rel=>exact ⟨i+1,max q z,by omega,by go_num,HT.out,rfl,AR1.out⟩
   case measure=>simp[intOf];omega
  ·have hS:S=q+1:=by
    have h1:i=N:=by omega
    have h2:=HQ.out;rw[h1,List.take_of_length_le (by rw[HN.out];exact zL _)] at h2;rw[HS.out,h2]
   have hq2:q<=4611686018427387904:=by have:=HZ.out;omega
   have HSQ:=zH hS;clear hS;go_wp2_with fail
   go_ret;exact ⟨by rw[HSQ.out];rfl,AR.out.below⟩
end SpecTree
namespace SpecTree
open Go.RowKit
open Strs Tree Texts
theorem in_any (a b c:Int) (w:World):
  Calls Tryz.prog 157 #[.int .i64 a,.int .i64 b,.int .i64 c] w fun r w'=>r=.returned (.bool (decide (b<=a/\a<=c)))/\w=w':=by
 generalize hD:decide (b<=a/\a<=c)=D;have HD:=zH hD;clear hD;by_cases h1:b<=a
 ·by_cases h2:a<=c
  ·have hD:D=true:=by rw[<-HD.out];exact decide_eq_true ⟨h1,h2⟩
   subst hD;go_enter Tryz.func157,Tryz.ntmps157;go_wp2_with fail
   go_ret;exact ⟨rfl,rfl⟩
  ·have hD:D=false:=by rw[<-HD.out];exact decide_eq_false (fun h=>h2 h.2)
   subst hD;go_enter Tryz.func157,Tryz.ntmps157;go_wp2_with fail
   go_ret;exact ⟨rfl,rfl⟩
 ·have hD:D=false:=by rw[<-HD.out];exact decide_eq_false (fun h=>h1 h.1)
  subst hD;go_enter Tryz.func157,Tryz.ntmps157;go_wp2_with fail
  go_ret;exact ⟨rfl,rfl⟩
theorem left_node:∀ e,∀ (lo:Nat) (w:World) (vn vk:Value) (l:Nat),l<=1048576->NodeAt lo w e vn vk ->
  Calls Tryz.prog 42 #[.agg #[.int .i64 e.kind,.string e.text,.int .i64 e.num,vn,vk],.int .i64 l] w fun r w'=>r=.returned (.int .i64 (after l (size e)))/\Below w.heap.size w w':=by
 refine ind fun k t n ns ks ih=>?_
 intro lo w vn vk l hl hnode;rw[zaw] at hnode;obtain ⟨-,-,-,-,hks⟩:=hnode;simp only[E.kind,E.text,E.num,E.kids] at *;obtain ⟨a,cap,rfl,hm,hc⟩:=hks;unfold maxLen at hm;have HS:Hid (size (.mk k t n ns ks)=sizes ks+1):=by show _=_;rw[size]
 generalize size (.mk k t n ns ks)=S at *;have HC:=zH hc;clear hc;have IH:=zH ih;clear ih;generalize hN:ks.length=N at *;have HN:=zH hN;clear hN;have HA:=zH (arg_new w k t n vn (.slice a N cap) 27);generalize hR:after l S=R;have HR:=zH hR;clear hR;by_cases h0:l=0
 ·subst h0
  have hR:R = -1:=by rw[<-HR.out];exact after_no (by have:=HS.out;omega)
  subst hR;go_enter Tryz.func42,Tryz.ntmps42;go_wp2_with fail
  refine wp_loop_rounds 1 ?_;rw[rounds_succ];have a4:=HA.out.a4;by_cases hN0:0<N
  ·go_wp2_with fail
   go_ret;exact ⟨rfl,HA.out.below⟩
  ·go_wp2_with fail
   go_ret;exact ⟨rfl,HA.out.below⟩
 ·obtain ⟨l1,hl1⟩:∃ l1,l=l1+1:=⟨l-1,by omega⟩
  have e1:(l:Int)-1=(l1:Int):=by omega
  have HL1:=zH hl1;clear hl1;go_enter Tryz.func42,Tryz.ntmps42;go_wp2_with fail
  go_loopw [1,5] (fun s j wr=>∃ i:Nat,i<=N/\j=.int .i64 i/\s=.int .i64 (after l1 (sizes (ks.take i)))/\Arg w vn (.slice a N cap) wr) (fun _ j _=>N-(intOf j).toNat)
  case atStart=>exact ⟨0,by omega,rfl,by simp[after,sizes],HA.out⟩
  case round=>
   obtain ⟨i,hi,rfl,rfl,harg⟩:=hrel;have a4:=harg.a4;have AR:=zH harg;clear harg;by_cases hlt:i<N
   ·have hil:i<ks.length:=by rw[HN.out];exact hlt
    obtain ⟨b,off,rfl,hb,hr⟩:=HC.out (by have:=HN.out;omega);obtain ⟨xn,xk,d0,d1,d2,d3,d4,hnode⟩:=(row_iff ks off).1 hr i hil;have c0:=cell_keep AR.out.below d0;have c1:=cell_keep AR.out.below d1;have c2:=cell_keep AR.out.below d2;have c3:=cell_keep AR.out.below d3;have c4:=cell_keep AR.out.below d4;have HT:=zH (sizes_take ks i hil);by_cases hle:sizes (ks.take i)<=l1
    ·rw[after_yes hle]
     have KI:=zH (IH.out _ (List.getElem_mem hil) lo _ xn xk (l1-sizes (ks.take i)) (by have:=HL1.out;omega) (hnode.below AR.out.below))
     have HV:Hid (after (l1-sizes (ks.take i)) (size ks[i])=after l1 (sizes (ks.take (i+1)))):=by
      show _=_
      rw[HT.out];unfold after
      split
      ·rw[if_pos (by omega)];congr 1;omega
      ·rw[if_neg (by omega)]
     clear d0 d1 d2 d3 d4 hnode hr hle;generalize ks[i]=e at *;generalize size e=z at *;generalize l1-sizes (ks.take i)=q at *;clear HT;rw[HV.out] at KI;generalize hVV:after l1 (sizes (ks.take (i+1)))=V at *;have HVV:=zH hVV;clear hVV;go_wp2_with fail
     refine KI.out.mono ?_;rintro r w1 ⟨rfl,hb1⟩;have AR1:=zH (AR.out.step hb1);clear c0 c1 c2 c3 c4 hb1 AR;go_wp2_with fail
     go_roundw
     case rel=>exact ⟨i+1,by omega,by go_num,by rw[HVV.out],AR1.out⟩
     case measure=>simp[intOf];omega
    ·rw[after_no (by omega)]
     have hR:R = -1:=by rw[<-HR.out];have h3:=sizes_le ks i;exact after_no (by have:=HS.out;have:=HL1.out;omega)
     subst hR;clear d0 d1 d2 d3 d4 hnode hr hle;go_wp2_with fail
     go_ret;exact ⟨rfl,AR.out.below⟩
   ·have hR:R=after l1 (sizes (ks.take i)):=by
     have h1:i=N:=by omega
     rw[h1,List.take_of_length_le (by rw[HN.out];exact zL _),<-HR.out,HS.out,HL1.out];unfold after
     split
     ·rw[if_pos (by omega)];congr 1;omega
     ·rw[if_neg (by omega)]
    generalize after l1 (sizes (ks.take i))=V at *;subst hR;go_wp2_with fail
    go_ret;exact ⟨rfl,AR.out.below⟩
theorem istext_any (s:ByteArray) (w:World) (hs:s.size<=maxLen):
  Calls Tryz.prog 158 #[.string s] w fun r w'=>r=.returned (.bool (isText s))/\w=w':=by
 unfold maxLen at hs;generalize hD:isText s=D;have HD:=zH hD;clear hD;go_enter Tryz.func158,Tryz.ntmps158;go_wp2_with fail
 go_loop [3] (fun j=>∃ i:Nat,i<=s.size/\j=.int .i64 i/\Hid (∀ k (h:k<s.size),k<i->32<=s[k].toNat/\s[k].toNat<=126)) (fun j=>s.size-(intOf j).toNat)
 case atStart=>exact ⟨0,by omega,rfl,fun k _ h=>by omega⟩
 case round=>
  obtain ⟨i,hi,rfl,HR⟩:=hrel;by_cases hlt:i<s.size
  ·have hlt':i<s.data.toList.length:=by rw[Array.length_toList];exact hlt
   have HX:Hid (s.data.toList[i]'hlt'=s[i]'hlt):=rfl
   have HNO:Hid (¬(32<=(s[i]'hlt).toNat/\(s[i]'hlt).toNat<=126)->D=false):=by
    intro h;rw[<-HD.out];unfold isText
    rw[show s.data.toList.all (fun b=>decide (32<=b.toNat)&&decide (b.toNat<=126))=false by rw[List.all_eq_false];exact ⟨s[i]'hlt,List.getElem_mem hlt',by simpa using h⟩]
    rfl
   by_cases h1:((s[i]'hlt).toNat:Int)<32
   ·have hD:D=false:=HNO.out (by omega)
    subst hD;go_wp2_with fail
    go_ret;exact ⟨rfl,rfl⟩
   ·by_cases h2:(126:Int)<((s[i]'hlt).toNat:Int)
    ·have hD:D=false:=HNO.out (by omega)
     subst hD;go_wp2_with fail
     go_ret;exact ⟨rfl,rfl⟩
    ·have HN:Hid (∀ k (h:k<s.size),k<i+1->32<=s[k].toNat/\s[k].toNat<=126):=by
      intro k hk hki;by_cases e:k=i
      ·subst e;omega
      ·exact HR.out k hk (by omega)
     clear HNO HX;go_wp2_with fail
     go_round
     case rel=>exact ⟨i+1,by omega,by go_num,HN⟩
     case measure=>simp[intOf];omega
  ·have HA:Hid (s.data.toList.all (fun b=>decide (32<=b.toNat)&&decide (b.toNat<=126))=true):=by
    show _=_
    rw[List.all_eq_true];intro b hb;obtain ⟨k,hk,rfl⟩:=List.getElem_of_mem hb;rw[Array.length_toList] at hk;have hk2:k<s.size:=hk;have h4:=HR.out k hk2 (by omega);simp only[Bool.and_eq_true,decide_eq_true_eq];exact h4
   by_cases h3:(s.size:Int)<=40
   ·have hD:D=true:=by rw[<-HD.out];unfold isText;rw[HA.out,decide_eq_true (by omega)];rfl
    subst hD;go_wp2_with fail
    go_ret;exact ⟨rfl,rfl⟩
   ·have hD:D=false:=by rw[<-HD.out];unfold isText;rw[HA.out,decide_eq_false (by omega)];rfl
    subst hD;go_wp2_with fail
    go_ret;exact ⟨rfl,rfl⟩
end SpecTree
namespace PtrMap
open Go.RowKit
open Strs Tree PMap Soft
def encP (a:Addr):Value:=.pointer (some a)
theorem infoE:(Tryz.prog.info? 27).map (fun i=>i.size)=some 5:=by kernel_rfl
theorem zeroX (w:World):(zeroValue 76).run Tryz.prog w=.ok (.agg #[.int .i64 0,.int .i64 0]) w:=by kernel_rfl
theorem law {w0 w:World} (hb:Below w0.heap.size w0 w):Law Tryz.prog encP (Fine w0) 138 89 76 (.agg #[.int .i64 0,.int .i64 0]) w:=by
 refine ⟨Tryz.underlying138,⟨_,Tryz.underlying89,fun a b=>rfl⟩,fun em k _=>?_,fun k k' hk hk'=>?_,fun k _=>?_,zeroX w⟩
 ·show (Instr.checkKey em (9999+1) 89 (.pointer (some k))).run Tryz.prog w=_
  unfold Instr.checkKey;simp only[Sem.run_bind,run_underlying Tryz.underlying89,Result.andThen];rfl
 ·obtain ⟨i,hi,hz⟩:=Option.map_eq_some_iff.1 infoE
  exact equal_ptr Tryz.underlying89 hi (by rw[hz];decide) (hk.keep hb) (hk'.keep hb) 9999
 ·have h:Instr.sameBits 10000 (encP k) (encP k)=true:=by
   show (some k==some k)=true
   simp
  simp only[Instr.keyThatStays,h,if_true];rfl
end PtrMap
namespace ImplMeas
open Go.RowKit
open Strs Tree PMap Soft Dfs
def N0 (w:World) (x:Addr):Prop:=∃ e,Nd w x e
theorem nd_tree {w:World} {x:Addr} (h:N0 w x):Nd w x (treeAt w x):=by obtain ⟨e,he⟩:=h;rw[he.tree];exact he
theorem kids0 (w:World):Dfs.Kids (N0 w) (treeAt w) (kid w):=by intro a i ha hi;have h:=(nd_tree ha).kid_is hi;exact ⟨⟨_,h⟩,by rw[h.tree,getElem!_pos _ i hi]⟩
theorem two_cells (w:World) (u v:Value) (t:TypeId):∀ (j:Nat) (x:Value),[u,v][j]?=some x->(w.alloc (.cells #[u,v] t)).cell? ((⟨w.heap.size,0,none⟩:Addr).add j)=some x:=by
 intro j x hj
 match j,hj with
 | 0,hj=>simp at hj;subst hj;simp[Addr.add]
 | 1,hj=>simp at hj;subst hj;simp[Addr.add]
end ImplMeas
namespace TreeTo
open Go.RowKit
open Strs Tree Texts Soft
def SoftV (lo:Nat) (w:World) (e:E) (v:Value):Prop:=∃ a b c d vk,v=.agg #[a,b,c,d,vk]/\Soft lo w e vk
theorem SoftV.below {lo:Nat} {w w':World} {e:E} {v:Value} (h:SoftV lo w e v) (hb:Below w.heap.size w w'):SoftV lo w' e v:=by obtain ⟨a,b,c,d,vk,rfl,h⟩:=h;exact ⟨a,b,c,d,vk,rfl,Soft.keep (zL _) (keptF_below hb) _ _ h⟩
end TreeTo
namespace PairMap
open Go.RowKit
open Strs Tree PMap Soft PtrMap
def encC (c : Addr × Addr) : Value := .agg #[.pointer (some c.1), .pointer (some c.2)]
def Fine2 (w : World) (c : Addr × Addr) : Prop := Fine w c.1 /\ Fine w c.2
theorem zeroB (w : World) : (zeroValue 4).run Tryz.prog w = .ok (.bool false) w := by kernel_rfl
theorem under : Tryz.prog.underlying 91 = some (.struct (Tryz.prog.fieldsOf 91)) := by kernel_rfl
theorem held : Tryz.prog.stoodInHeld 91 = false := by kernel_rfl
theorem fields : (Tryz.prog.fieldsOf 91).toList.map (fun f => (f.name, f.type, f.offset)) = [("a", 89, 0), ("b", 89, 1)] := by kernel_rfl
theorem part0 (w : World) (a b : Addr) : (part 89 #[.pointer (some a), .pointer (some b)] 0).run Tryz.prog w = .ok (.pointer (some a)) w := by kernel_rfl
theorem part1 (w : World) (a b : Addr) : (part 89 #[.pointer (some a), .pointer (some b)] 1).run Tryz.prog w = .ok (.pointer (some b)) w := by kernel_rfl
theorem two_fields : ∃ f g : Field, (Tryz.prog.fieldsOf 91).toList = [f, g] /\ f.name = "a" /\ f.type = 89 /\ f.offset = 0 /\ g.name = "b" /\ g.type = 89 /\ g.offset = 1 := by
  have h := fields
  generalize (Tryz.prog.fieldsOf 91).toList = l at h
  match l, h with
  | [], h => cases h
  | [_], h => simp at h
  | _ :: _ :: _ :: _, h => simp at h
  | [f, g], h =>
    simp at h
    exact ⟨f, g, rfl, h.1.1, h.1.2.1, h.1.2.2, h.2.1, h.2.2.1, h.2.2.2⟩
theorem law {w0 w : World} (hb : Below w0.heap.size w0 w) : Law Tryz.prog encC (Fine2 w0) 93 91 4 (.bool false) w := by
  obtain ⟨f, g, hl, f1, f2, f3, g1, g2, g3⟩ := two_fields
  refine ⟨Tryz.underlying93, ⟨_, under, fun a b => rfl⟩, fun em k _ => ?_, fun k k' hk hk' => ?_, fun k _ => ?_, zeroB w⟩
  · show (Instr.checkKey em (9999 + 1) 91 (.agg #[.pointer (some k.1), .pointer (some k.2)])).run Tryz.prog w = _
    unfold Instr.checkKey
    simp only [Sem.run_bind, run_underlying under, Result.andThen]
    rw [<- Array.forIn_toList, hl]
    have c1 : ∀ a, (Instr.checkKey em (9998 + 1) 89 (.pointer (some a))).run Tryz.prog w = .ok () w := by
      intro a
      unfold Instr.checkKey
      simp only [Sem.run_bind, run_underlying Tryz.underlying89, Result.andThen]
      rfl
    simp [f1, f2, f3, g1, g2, g3, part0, part1, c1]
  · obtain ⟨i, hi, hz⟩ := Option.map_eq_some_iff.1 infoE
    obtain ⟨a, b⟩ := k
    obtain ⟨a', b'⟩ := k'
    have e1 : (Op.equalIn 9999 89 (.pointer (some a)) (.pointer (some a'))).run Tryz.prog w = .ok (decide (a = a')) w := equal_ptr (d := 9998) Tryz.underlying89 hi (by rw [hz]; decide) (hk.1.keep hb) (hk'.1.keep hb)
    have e2 : (Op.equalIn 9999 89 (.pointer (some b)) (.pointer (some b'))).run Tryz.prog w = .ok (decide (b = b')) w := equal_ptr (d := 9998) Tryz.underlying89 hi (by rw [hz]; decide) (hk.2.keep hb) (hk'.2.keep hb)
    show (Op.equalIn (9999 + 1) 91 (.agg #[.pointer (some a), .pointer (some b)]) (.agg #[.pointer (some a'), .pointer (some b')])).run Tryz.prog w = _
    rw [run_equalIn_agg w _ _ _ _ under held, hl]
    clear hl hk hk' hb
    have hr : decide ((a, b) = (a', b')) = (decide (a = a') && decide (b = b')) := by simp
    rw [hr]
    generalize decide (a = a') = d1 at e1 ⊢
    generalize decide (b = b') = d2 at e2 ⊢
    simp [Op.eqFields, f1, f2, f3, g1, g2, g3, part0, part1, e1]
    cases d1
    · rfl
    · simp [e2]
      cases d2 <;> rfl
  · have h : Instr.sameBits 10000 (encC k) (encC k) = true := by
      show Instr.sameBits (9999 + 1) (.agg #[.pointer (some k.1), .pointer (some k.2)]) (.agg #[.pointer (some k.1), .pointer (some k.2)]) = true
      unfold Instr.sameBits
      simp [Instr.sameBits]
    simp only [Instr.keyThatStays, h, if_true]
    rfl
end PairMap
end Go.Proofs.YtbigfeblomfflaaGreatDoor
