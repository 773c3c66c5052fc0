/-
  MarkTree
-/
import Derived.Test.YtlmhgeanknhcfaaGreatDoorVMarkRow
import Derived.Test.YtlmhgeanknhcfaaGreatDoorB25
import Derived.Test.YtlmhgeanknhcfaaGreatDoorVXtParseExpr
namespace Go.Proofs.YtlmhgeanknhcfaaGreatDoor.Placed
open Go.RowKit
open Strs Tree
open ParI (Row)
mutual
def cnt:T->Nat
 | .mk _ _ _ ns _ _ ks=>3+ns.length+zba ks
def zba:List T->Nat
 | []=>0
 | t::ts=>cnt t+zba ts
end
mutual
def marked (k:Nat):T->T
 | .mk _ _ _ ns vn vk ks=>.mk (k:Int) (Mark.mark ((k+1:Nat):Int)) ((k+2:Nat):Int) (marks (k+3) ns.length) vn vk (zac (k+3+ns.length) ks)
def zac (k:Nat):List T->List T
 | []=>[]
 | t::ts=>marked k t::zac (k+cnt t) ts
end
theorem zaz (a b:List T):zba (a++b)=zba a+zba b:=by
 induction a with
 | nil=>simp[zba]
 | cons t ts ih=>rw[List.cons_append,zba,zba,ih];omega
theorem zbt (k:Nat) (a b:List T):zac k (a++b)=zac k a++zac (k+zba a) b:=by
 induction a generalizing k with
 | nil=>simp[zac,zba]
 | cons t ts ih=>rw[List.cons_append,zac,zac,ih,zba,List.cons_append,Nat.add_assoc]
theorem zbr (k:Nat) (a:List T):(zac k a).length=a.length:=by
 induction a generalizing k with
 | nil=>rfl
 | cons t ts ih=>rw[zac,List.length_cons,ih];rfl
theorem ztp:∀ t:T,∀ k,foot (marked k t)=foot t:=by
 refine ind fun kd tx nm ns vn vk ks ih=>?_
 intro k;rw[marked,foot,foot]
 have h:∀ (l:List T),(∀ e,e∈l->∀ k,foot (marked k e)=foot e)->∀ k,zah (zac k l)=zah l:=by
  intro l
  induction l with
  | nil=>intro _ _;rfl
  | cons a l ih2=>intro hl k;rw[zac,zah,zah,hl a (by simp) k,ih2 (fun e he=>hl e (by simp[he]))]
 rw[h ks ih]
theorem zbq (l:List T):∀ k,zah (zac k l)=zah l:=by
 induction l with
 | nil=>intro _;rfl
 | cons a l ih2=>intro k;rw[zac,zah,zah,ztp a k,ih2]
theorem z4y (A B:List T) (t:T) (j:Nat) (hj:j<5):(row (A++t::B))[A.length*5+j]?=(cells t)[j]?:=by rw[zfr,zho,List.getElem?_append_right (by rw[zd7];omega),zd7,Nat.add_sub_cancel_left,List.getElem?_append_left (by simp[cells];exact hj)]
theorem zd1 (A B:List T) (t t':T) (j:Nat) (u:Value) (hj:j<5) (h:cells t'=(cells t).set j u):(row (A++t::B)).set (A.length*5+j) u=row (A++t'::B):=by rw[zfr,zfr,zho,zho,List.set_append_right _ _ (by rw[zd7];omega),zd7,Nat.add_sub_cancel_left,List.set_append_left _ _ (by simp[cells];exact hj),h]
theorem zfa (A B:List T) (t:T):zah (A++t::B)=zah A++(foot t++zah B):=by rw[zan,zah]
theorem zr4 (A B:List T) (t t':T):(A++t::B).length=(A++t'::B).length:=by simp
theorem zed {base:Nat} {w:World} {A B:List T} {t:T} (t':T) {g c n j:Nat} {u:Value} (h:Row base w (A++t::B) (.slice (some ⟨g,0,none⟩) n c)) (hn:(A++t::B).length=n) (hj:j<5) (hc:cells t'=(cells t).set j u) (hf:foot t'=foot t) (hg:Good w t'):
  Row base (w.setCell ⟨g,A.length*5+j,none⟩ u) (A++t'::B) (.slice (some ⟨g,0,none⟩) n c):=by
 obtain ⟨h1,h2,h3⟩:=h;have hfe:zah (A++t'::B)=zah (A++t::B):=by rw[zfa,zfa,hf]
 have hap:∀ b,b∈zah (A++t::B)->b≠g:=fun b hb e=>by subst e;exact h3 b (by simp[blk,Value.ownBlock]) hb
 have hfr:∀ b,b≠g->(w.setCell ⟨g,A.length*5+j,none⟩ u).heap[b]?=w.heap[b]?:=fun b hb=>Below.heap_setCell _ _ _ _ (fun e=>hb e)
 refine ⟨?_,⟨?_,by rw[hfe];exact h2.nd,by rw[hfe];exact h2.lo⟩,fun b hb=>by rw[hfe];exact h3 b hb⟩
 ·subst hn
  have h4:=(h1.stored (A.length*5+j) u).1;rw[zd1 A B t t' j u hj hc,zr4 A B t t'] at h4;rw[zr4 A B t t'];exact h4
 ·rw[zam]
  intro x hx;have h5:=zam.1 h2.good;rcases List.mem_append.1 hx with hx|hx
  ·exact Good.frame x (h5 x (by simp[hx])) fun b hb=>hfr b (hap b (zda (by simp[hx]) b hb))
  rcases List.mem_cons.1 hx with rfl|hx
  ·exact Good.frame x hg fun b hb=>hfr b (hap b (by rw[<-hfe];exact zda (by simp) b hb))
  ·exact Good.frame x (h5 x (by simp[hx])) fun b hb=>hfr b (hap b (zda (by simp[hx]) b hb))
theorem zer {base:Nat} {w w':World} {A B:List T} {t:T} (t':T) {v:Value} {F:List Nat} (h:Row base w (A++t::B) v) (hc:cells t'=cells t) (hf:foot t'=foot t) (hg:Good w' t') (hx:Exc F w w') (hF:∀ b,b∈F->b∈foot t):
  Row base w' (A++t'::B) v:=by
 obtain ⟨h1,h2,h3⟩:=h;have hfe:zah (A++t'::B)=zah (A++t::B):=by rw[zfa,zfa,hf]
 have hnd:=h2.nd;rw[zfa,List.nodup_append] at hnd;have hnd2:=hnd.2.1;rw[List.nodup_append] at hnd2;have h5:=zam.1 h2.good;have hbl:=zb2.lt h2.good;refine ⟨?_,⟨?_,by rw[hfe];exact h2.nd,by rw[hfe];exact h2.lo⟩,fun b hb=>by rw[hfe];exact h3 b hb⟩
 ·have h4:=hx.own h1 fun b hb hb2=>h3 b hb (by rw[zfa];simp[hF b hb2])
  rw[<-zr4 A B t t'];have e:row (A++t'::B)=row (A++t::B):=by rw[zfr,zfr,zho,zho,hc]
  rw[e];exact h4
 ·rw[zam]
  intro x hxm;rcases List.mem_append.1 hxm with hm|hm
  ·exact Good.frame x (h5 x (by simp[hm])) fun b hb=>hx.block b (hbl b (zda (by simp[hm]) b hb)) fun e=>hnd.2.2 b (zda hm b hb) b (by simp[hF b e]) rfl
  rcases List.mem_cons.1 hm with rfl|hm
  ·exact hg
  ·exact Good.frame x (h5 x (by simp[hm])) fun b hb=>hx.block b (hbl b (zda (by simp[hm]) b hb)) fun e=>hnd2.2.2 b (hF b e) b (zda hm b hb) rfl
theorem zhs {base:Nat} {w:World} {A B:List T} {t:T} {v:Value} (h:Row base w (A++t::B) v):Own base w t:=by have h2:=h.kids;have hnd:=h2.nd;rw[zfa,List.nodup_append] at hnd;have hnd2:=hnd.2.1;rw[List.nodup_append] at hnd2;exact ⟨zam.1 h2.good t (by simp),hnd2.1,fun b hb=>h2.lo b (by rw[zfa];simp[hb])⟩
def zy7 (ts:List T):Prop:=∀ (base k:Nat) (v:Value) (w:World),Row base w ts v->0<k->k+zba ts<=4611686018427387904->Calls Tryz.prog 36 #[v,.int .i64 (k:Int)] w fun e w'=>e=.returned (.int .i64 ((k+zba ts:Nat):Int))/\Row base w' (zac k ts) v/\Exc (blk v++zah ts) w w'
end Go.Proofs.YtlmhgeanknhcfaaGreatDoor.Placed
