/-
  PMap Soft
-/
import Derived.Test.YtbigfeblomfflaaGreatDoorB1
namespace Go.Proofs.YtbigfeblomfflaaGreatDoor.PMap
open Go.RowKit Go.MapKept
open Strs
def Fine (w:World) (a:Addr):Prop:=a.spot=none/\(∃ v,w.cell? a=some v)/\∀ o,w.frozen? ⟨a.block,o,none⟩=false
theorem Fine.keep {w w':World} {a:Addr} (h:Fine w a) (hb:Below w.heap.size w w'):Fine w' a:=by obtain ⟨b,o,s⟩:=a;obtain ⟨h1,⟨v,hv⟩,h3⟩:=h;simp only at h1;subst h1;have hlt:=cell_lt hv;exact ⟨rfl,⟨v,cell_keep hb hv⟩,fun o'=>(hb.frozen (p:=⟨b,o',none⟩) hlt).trans (h3 o')⟩
theorem shape_of {w:World} {a:Addr} {v:Value} (h:w.cell? a=some v):∃ e n,w.shape? a.block=some (e,n):=by
 unfold World.cell? at h;unfold World.shape?
 split at h
 ·rename_i c e z hh
  exact ⟨e,c.size,rfl⟩
 ·cases h
theorem same_addr {P:Program} {w:World} {a b:Addr} (ha:Fine w a) (hb:Fine w b):(sameAddr a b).run P w=.ok (decide (a=b)) w:=by
 obtain ⟨ba,oa,sa⟩:=a;obtain ⟨bb,ob,sb⟩:=b;obtain ⟨ha1,⟨va,hva⟩,ha3⟩:=ha;obtain ⟨hb1,⟨vb,hvb⟩,hb3⟩:=hb;simp only at ha1 hb1 ha3 hb3;subst ha1 hb1;obtain ⟨ea,na,hsa⟩:=shape_of hva;obtain ⟨eb,nb,hsb⟩:=shape_of hvb;simp only at hsa hsb;by_cases h:ba=bb
 ·subst h
  simp[sameAddr];exact Bool.eq_iff_iff.2 (by simp)
 ·simp[sameAddr,h,ha3,hb3,noView,viewAt,mayBeOne,stringish,hsa,hsb]
theorem equal_ptr {P:Program} {w:World} {t e:TypeId} {i:TypeInfo} (ht:P.underlying t=some (.pointer e)) (hi:P.info? e=some i) (hz:i.size≠0) {a b:Addr} (ha:Fine w a) (hb:Fine w b) (d:Nat):
  (Op.equalIn (d+1) t (.pointer (some a)) (.pointer (some b))).run P w=.ok (decide (a=b)) w:=by
 simp[Op.equalIn,run_underlying ht,sizeOf,typeInfo,hi,hz,same_addr ha hb]
theorem no_now {P:Program} {w:World} {K:TypeId} {d:TypeDesc} (hd:P.underlying K=some d) (hnow:∀ a b,Instr.sameNow d a b=none) (k:Value) (es:List MapEntry):
  (Instr.findKey K k es).run P w=(Instr.findAsking K k es).run P w:=by
 have h:Instr.findNow d k es 0=none\/es=[]:=by
  cases es with
  | nil=>exact .inr rfl
  | cons e es=>left;simp[Instr.findNow,hnow]
 rcases h with h|rfl
 ·simp[Instr.findKey,run_underlying hd,h]
 ·simp[Instr.findKey,run_underlying hd,Instr.findNow,Instr.findAsking]
section
variable {κ:Type} [DecidableEq κ] (enc:κ->Value) (dom:κ->Prop)
def seek (k:κ):List (κ×Value)->Nat->Option (Nat×Value)
 | [],_=>none
 | e::es,i=>if k=e.1 then some (i,e.2) else seek k es (i+1)
def Is (w:World) (B:Nat) (M:κ->Option Value):Prop:=
 ∃ (es:Array MapEntry) (clock:Nat) (l:List (κ×Value)),w.heap[B]?=some (.map es clock)/\es.toList.map (fun e=>(e.key,e.val))=l.map (fun e=>(enc e.1,e.2))/\(∀ e∈l,dom e.1)/\∀ k,M k=(seek k l 0).map (·.2)
variable {enc dom}
theorem Is.lt {w:World} {B:Nat} {M:κ->Option Value} (h:Is enc dom w B M):B<w.heap.size:=by obtain ⟨es,clock,l,hb,_⟩:=h;exact (Array.getElem?_eq_some_iff.1 hb).1
theorem Is.kept {w w':World} {B:Nat} {M:κ->Option Value} (h:Is enc dom w B M) (hk:w'.heap[B]?=w.heap[B]?):Is enc dom w' B M:=by obtain ⟨es,clock,l,hb,h2,h3,h4⟩:=h;exact ⟨es,clock,l,hk.trans hb,h2,h3,h4⟩
theorem Is.step {w w':World} {B:Nat} {M:κ->Option Value} (h:Is enc dom w B M) (hb:Below w.heap.size w w'):Is enc dom w' B M:=h.kept (hb.block B h.lt)
theorem is_new (w:World):Is enc dom (w.alloc (.map #[] 0)) w.heap.size (fun _=>none):=
 ⟨#[],0,[],(MapKept.heap_alloc w _).1,rfl,by simp,fun k=>rfl⟩
theorem seek_shift (k:κ):∀ (l:List (κ×Value)) (i j:Nat),seek k l (i+j)=(seek k l i).map fun x=>(x.1+j,x.2)
 | [],_,_=>rfl
 | e::es,i,j=>by
  unfold seek
  split
  ·rfl
  ·rw[show i+j+1=(i+1)+j by omega];exact seek_shift k es (i+1) j
theorem seek_some (k:κ):∀ (l:List (κ×Value)) (i j:Nat) (v:Value),seek k l i=some (j,v)->∃ q,j=i+q/\∃ h:q<l.length,l[q]=(k,v)
 | [],_,_,_,h=>by cases h
 | e::es,i,j,v,h=>by
  unfold seek at h
  split at h
  ·rename_i he
   cases h;exact ⟨0,rfl,by simp,by simp[he]⟩
  ·obtain ⟨q,rfl,hq,hv⟩:=seek_some k es (i+1) j v h
   exact ⟨q+1,by omega,by simp;omega,by simpa using hv⟩
variable {P:Program} {w:World} {K E t:TypeId} {d:TypeDesc}
theorem asks (heq:∀ k k',dom k->dom k'->(Op.equal K (enc k) (enc k')).run P w=.ok (decide (k=k')) w) {k:κ} (hk:dom k):∀ (es:List MapEntry) (l:List (κ×Value)) (i:Nat),es.map (fun e=>(e.key,e.val))=l.map (fun e=>(enc e.1,e.2))->(∀ e∈l,dom e.1) ->
  (Instr.findAsking K (enc k) es i).run P w=.ok (seek k l i) w
 | [],[],_,_,_=>by simp[Instr.findAsking,seek]
 | [],_::_,_,h,_=>by simp at h
 | _::_,[],_,h,_=>by simp at h
 | e::es,x::l,i,h,hd=>by
  simp only[List.map_cons,List.cons.injEq,Prod.mk.injEq] at h;obtain ⟨⟨h1,h2⟩,h3⟩:=h;have hx:=heq k x.1 hk (hd x (by simp));have ih:=asks heq hk es l (i+1) h3 (fun y hy=>hd y (by simp[hy]))
  unfold seek;by_cases hkx:k=x.1
  ·subst hkx
   simp[Instr.findAsking,h1,hx,h2]
  ·simp[Instr.findAsking,h1,hx,hkx,ih]
structure Law (P:Program) (enc:κ->Value) (dom:κ->Prop) (t K E:TypeId) (z:Value) (w:World):Prop where
 map:P.underlying t=some (.map K E)
 now:∃ d,P.underlying K=some d/\∀ a b,Instr.sameNow d a b=none
 check:∀ em k,dom k->(Instr.checkKey em 10000 K (enc k)).run P w=.ok () w
 eq:∀ k k',dom k->dom k'->(Op.equal K (enc k) (enc k')).run P w=.ok (decide (k=k')) w
 stays:∀ k,dom k->(Instr.keyThatStays (enc k) (enc k)).run P w=.ok (enc k) w
 zero:(zeroValue E).run P w=.ok z w
theorem Law.find {z:Value} (L:Law P enc dom t K E z w) {k:κ} (hk:dom k) {es:List MapEntry} {l:List (κ×Value)} (h:es.map (fun e=>(e.key,e.val))=l.map (fun e=>(enc e.1,e.2))) (hd:∀ e∈l,dom e.1):
  (Instr.findKey K (enc k) es).run P w=.ok (seek k l 0) w:=by
 obtain ⟨d,h1,h2⟩:=L.now;rw[no_now h1 h2,asks L.eq hk es l 0 h hd]
theorem Is.look {z:Value} {B:Nat} {M:κ->Option Value} (h:Is enc dom w B M) (L:Law P enc dom t K E z w) {k:κ} (hk:dom k) (c:Bool):
  (Instr.lookup t (.map (some B)) (enc k) c).run P w=.ok (if c then .tuple #[(M k).getD z,.bool (M k).isSome] else (M k).getD z) w:=by
 obtain ⟨es,clock,l,hb,h2,h3,h4⟩:=h;have hf:=L.find hk h2 h3;rw[h4 k];cases hs:seek k l 0 with
 | none=>rw[hs] at hf;simp[Instr.lookup,run_underlying L.map,MapKept.run_getObj_map hb,L.check _ k hk,hf,L.zero]
 | some x=>obtain ⟨i,v⟩:=x;rw[hs] at hf;simp[Instr.lookup,run_underlying L.map,MapKept.run_getObj_map hb,L.check _ k hk,hf]
theorem seek_append (k k':κ) (v:Value):∀ (l:List (κ×Value)) (i:Nat),seek k l i=none->(seek k' (l++[(k,v)]) i).map (·.2)=if k'=k then some v else (seek k' l i).map (·.2)
 | [],i,_=>by by_cases h:k'=k<;>simp[seek,h]
 | e::es,i,h=>by
  have h':k≠e.1/\seek k es (i+1)=none:=by
   unfold seek at h
   split at h
   ·cases h
   ·rename_i hne;exact ⟨hne,h⟩
  have ih:=seek_append k k' v es (i+1) h'.2;simp only[List.cons_append,seek];by_cases h1:k'=e.1
  ·have h2:¬e.1=k:=fun x=>h'.1 x.symm
   simp[h1,h2]
  ·simp only[h1,if_false]
   exact ih
theorem seek_set (k k':κ) (v:Value):∀ (l:List (κ×Value)) (q:Nat),(∀ i,∃ u,seek k l i=some (i+q,u))->(∀ i,(seek k' (l.set q (k,v)) i).map (·.2)=if k'=k then some v else (seek k' l i).map (·.2))
 | [],q,h,_=>by obtain ⟨u,h⟩:=h 0;cases h
 | e::es,0,h,i=>by
  obtain ⟨u,h⟩:=h 0
  have hk:k=e.1:=by
   unfold seek at h
   split at h
   ·assumption
   ·obtain ⟨j,h1,_⟩:=seek_some k es (0+1) _ _ h
    omega
  simp only[List.set_cons_zero,seek];by_cases h1:k'=k
  ·simp[h1]
  ·simp[h1,<-hk]
 | e::es,q+1,h,i=>by
  have hk:¬k=e.1:=by intro hk;obtain ⟨u,h⟩:=h 0;simp[seek,hk] at h
  have ih:=seek_set k k' v es q (fun i=>by
   obtain ⟨u,h⟩:=h 0;simp only[seek,hk,if_false] at h;have:=seek_shift k es 0 1;rw[h] at this;cases h0:seek k es 0 with
   | none=>rw[h0] at this;cases this
   | some x=>obtain ⟨j,y⟩:=x;rw[h0] at this;simp at this;refine ⟨y,?_⟩;have h5:=seek_shift k es 0 i;rw[h0] at h5;simp at h5;rw[h5];simp;omega) (i+1)
  simp only[List.set_cons_succ,seek];by_cases h1:k'=e.1
  ·have h2:¬e.1=k:=fun x=>hk x.symm
   simp[h1,h2]
  ·simp only[h1,if_false]
   exact ih
theorem Is.store {z:Value} {B:Nat} {M:κ->Option Value} (h:Is enc dom w B M) (L:Law P enc dom t K E z w) {k:κ} (hk:dom k) (v:Value):
  ∃ w',(Instr.mapUpdate t (.map (some B)) (enc k) v).run P w=.ok () w'/\Is enc dom w' B (fun k'=>if k'=k then some v else M k')/\w.grownBy w' (some B):=by
 obtain ⟨es,clock,l,hb,h2,h3,h4⟩:=h;have hf:=L.find hk h2 h3
 have grow:∀ o,w.grownBy (ChangeMaps.setBlock w B o) (some B):=fun o=>⟨rfl,rfl,rfl,by simp[ChangeMaps.setBlock],fun i _ hi=>ChangeMaps.heap_setBlock_other hb _ (fun e=>hi (by rw[e]))⟩
 cases hs:seek k l 0 with
 | none=>
  rw[hs] at hf;refine ⟨ChangeMaps.setBlock w B (.map (es.push ⟨enc k,v,clock⟩) (clock+1)),?_,⟨_,_,l++[(k,v)],ChangeMaps.heap_setBlock_same hb _,by simp[h2],?_,?_⟩,grow _⟩
  ·simp[Instr.mapUpdate,run_underlying L.map,MapKept.run_getObj_map hb,L.check _ k hk,hf,MapKept.run_setObj_map _ hb,ChangeMaps.setBlock]
  ·intro e he
   rcases List.mem_append.1 he with he|he
   ·exact h3 e he
   ·simp at he;subst he;exact hk
  ·intro k'
   rw[seek_append k k' v l 0 hs,<-h4 k']
 | some x=>
  obtain ⟨j,u⟩:=x;rw[hs] at hf;obtain ⟨q,hq,hql,hqv⟩:=seek_some k l 0 j u hs;obtain rfl:j=q:=by omega
  have hlen:es.toList.length=l.length:=by simpa using congrArg List.length h2
  have hjs:j<es.size:=by simpa [<-hlen] using hql
  have hkey:es[j].key=enc k:=by
   have h5:=congrArg (fun l=>l[j]?) h2
   simp[hql,hqv,hjs] at h5;exact h5.1
  refine ⟨ChangeMaps.setBlock w B (.map (es.modify j fun e=>{ e with key:=enc k,val:=v }) clock),?_,⟨_,_,l.set j (k,v),ChangeMaps.heap_setBlock_same hb _,?_,?_,?_⟩,grow _⟩
  ·simp[Instr.mapUpdate,run_underlying L.map,MapKept.run_getObj_map hb,L.check _ k hk,hf,hjs,hkey,L.stays k hk,MapKept.run_setObj_map _ hb,ChangeMaps.setBlock]
  ·apply List.ext_getElem?
   intro i;have h5:=congrArg (fun l=>l[i]?) h2
   simp at h5;by_cases hij:i=j
   ·subst hij
    simp[hjs,hql]
   ·have hji:¬j=i:=fun x=>hij x.symm
    simp[hji,h5]
  ·intro e he
   rcases List.mem_or_eq_of_mem_set he with he|he
   ·exact h3 e he
   ·subst he;exact hk
  ·intro k'
   rw[seek_set k k' v l j (fun i=>⟨u,?_⟩) 0,<-h4 k']
   have h5:=seek_shift k l 0 i;rw[hs] at h5;simp only[Nat.zero_add,Option.map_some] at h5;rw[h5,Nat.add_comm]
end
end Go.Proofs.YtbigfeblomfflaaGreatDoor.PMap
namespace Go.Proofs.YtbigfeblomfflaaGreatDoor.Soft
open Go.RowKit
open Strs Tree PMap
mutual
def Soft (lo:Nat) (w:World):E->Value->Prop
 | .mk _ _ _ _ ks,vk=>∃ a cap,vk=.slice a ks.length cap/\(0<ks.length->∃ b off,a=some ⟨b,off,none⟩/\lo<=b/\(∀ o,w.frozen? ⟨b,o,none⟩=false)/\SoftRow lo w b ks off)
def SoftRow (lo:Nat) (w:World) (b:Nat):List E->Nat->Prop
 | [],_=>True
 | e::es,o=>(∃ vk,w.cell? ⟨b,o+4,none⟩=some vk/\Soft lo w e vk)/\SoftRow lo w b es (o+5)
end
def SoftKids (lo:Nat) (w:World) (ks:List E) (vk:Value):Prop:=
 ∃ a cap,vk=.slice a ks.length cap/\(0<ks.length->∃ b off,a=some ⟨b,off,none⟩/\lo<=b/\(∀ o,w.frozen? ⟨b,o,none⟩=false)/\SoftRow lo w b ks off)
theorem soft_iff {lo:Nat} {w:World} {e:E} {vk:Value}:Soft lo w e vk↔SoftKids lo w e.kids vk:=by
 cases e with
 | mk k t n ns ks=>rw[Soft];exact Iff.rfl
theorem softrow_iff {lo:Nat} {w:World} {b:Nat} (ks:List E) (o:Nat):SoftRow lo w b ks o↔∀ i (h:i<ks.length),∃ vk,w.cell? ⟨b,o+i*5+4,none⟩=some vk/\Soft lo w ks[i] vk:=by
 induction ks generalizing o with
 | nil=>simp[SoftRow]
 | cons e es ih=>
  rw[SoftRow,ih];constructor
  ·rintro ⟨h0,h1⟩ i hi
   cases i with
   | zero=>rw[show o+0*5+4=o+4 by omega];exact h0
   | succ i=>
    have:=h1 i (by simpa using hi);rw[show o+(i+1)*5+4=o+5+i*5+4 by omega]
    simpa using this
  ·intro h
   refine ⟨?_,fun i hi=>?_⟩
   ·have h0:=h 0 (by simp)
    rw[show o+0*5+4=o+4 by omega] at h0
    exact h0
   have:=h (i+1) (by simpa using hi);rw[show o+(i+1)*5+4=o+5+i*5+4 by omega] at this
   simpa using this
def KeptF (lo:Nat) (w w':World):Prop:=Kept lo w w'/\∀ b o,lo<=b->(∃ o' v,w.cell? ⟨b,o',none⟩=some v)->w.frozen? ⟨b,o,none⟩=false->w'.frozen? ⟨b,o,none⟩=false
theorem keptF_below {lo:Nat} {w w':World} (h:Below w.heap.size w w'):KeptF lo w w':=
 ⟨kept_below h,fun b o _ ⟨_,_,hc⟩ hf=>(h.frozen (p:=⟨b,o,none⟩) (show b<_ from cell_lt hc)).trans hf⟩
theorem KeptF.trans {lo:Nat} {w w' w'':World} (h:KeptF lo w w') (h':KeptF lo w' w''):KeptF lo w w'':=
 ⟨h.1.trans h'.1,fun b o hb ⟨o',v,hc⟩ hf=>h'.2 b o hb ⟨o',v,h.1 _ _ _ hb hc⟩ (h.2 b o hb ⟨o',v,hc⟩ hf)⟩
theorem keptF_set {lo:Nat} (w:World) (a:Addr) (v:Value) (h:a.block<lo):KeptF lo w (w.setCell a v):=
 ⟨kept_set w a v h,fun b o _ _ hf=>by simpa using hf⟩
theorem Soft.keep {lo hi:Nat} {w w':World} (hl:lo<=hi) (hk:KeptF hi w w'):∀ e vk,Soft hi w e vk->Soft lo w' e vk:=by
 refine ind fun k t n ns ks ih=>?_
 intro vk h;rw[soft_iff] at h ⊢;obtain ⟨a,cap,rfl,hc⟩:=h;refine ⟨a,cap,rfl,fun hp=>?_⟩
 obtain ⟨b,off,rfl,hb,hf,hr⟩:=hc hp;rw[softrow_iff] at hr;refine ⟨b,off,rfl,Nat.le_trans hl hb,fun o=>?_,?_⟩
 ·obtain ⟨vk,hc,_⟩:=hr 0 hp
  exact hk.2 b o hb ⟨_,_,hc⟩ (hf o)
 ·rw[softrow_iff]
  intro i hi;obtain ⟨vk,hc,hs⟩:=hr i hi;exact ⟨vk,hk.1 _ _ _ hb hc,ih _ (List.getElem_mem _) _ hs⟩
def Nd (w:World) (a:Addr) (e:E):Prop:=
 a.spot=none/\(∀ o,w.frozen? ⟨a.block,o,none⟩=false)/\∃ vn vk,w.cell? ⟨a.block,a.off,none⟩=some (.int .i64 e.kind)/\w.cell? ⟨a.block,a.off+1,none⟩=some (.string e.text)/\w.cell? ⟨a.block,a.off+2,none⟩=some (.int .i64 e.num) /\
  w.cell? ⟨a.block,a.off+3,none⟩=some vn/\w.cell? ⟨a.block,a.off+4,none⟩=some vk/\NodeAt 0 w e vn vk/\Soft 0 w e vk
theorem Nd.fine {w:World} {a:Addr} {e:E} (h:Nd w a e):Fine w a:=by obtain ⟨b,o,s⟩:=a;obtain ⟨h1,h2,vn,vk,h3,_⟩:=h;simp only at h1;subst h1;exact ⟨rfl,⟨_,h3⟩,h2⟩
theorem Nd.keep {w w':World} {a:Addr} {e:E} (h:Nd w a e) (hb:Below w.heap.size w w'):Nd w' a e:=by obtain ⟨h1,h2,vn,vk,c0,c1,c2,c3,c4,hn,hs⟩:=h;exact ⟨h1,fun o=>(hb.frozen (p:=⟨a.block,o,none⟩) (show a.block<_ from cell_lt (a:=⟨a.block,a.off,none⟩) c0)).trans (h2 o),vn,vk,cell_keep hb c0,cell_keep hb c1,cell_keep hb c2,cell_keep hb c3,cell_keep hb c4,hn.below hb,Soft.keep (zL _) (keptF_below hb) _ _ hs⟩
def kid (w:World) (a:Addr) (i:Nat):Addr:=
 match w.cell? ⟨a.block,a.off+4,none⟩ with
 | some (.slice (some x) _ _)=>⟨x.block,x.off+i*5,none⟩
 | _=>a
theorem Nd.kid_is {w:World} {a:Addr} {e:E} (h:Nd w a e) {i:Nat} (hi:i<e.kids.length):Nd w (kid w a i) e.kids[i]:=by obtain ⟨h1,h2,vn,vk,c0,c1,c2,c3,c4,hn,hs⟩:=h;obtain ⟨-,-,-,-,x,cap,rfl,-,hc⟩:=zaw.1 hn;obtain ⟨b,off,rfl,-,hr⟩:=hc (by omega);obtain ⟨x',cap',he,hc'⟩:=soft_iff.1 hs;cases he;obtain ⟨b',off',hx,-,hf,hr'⟩:=hc' (by omega);cases hx;obtain ⟨wn,wk,d0,d1,d2,d3,d4,hm⟩:=(row_iff _ _).1 hr i hi;obtain ⟨wk',d4',hs'⟩:=(softrow_iff _ _).1 hr' i hi;rw[d4] at d4';cases d4';unfold kid;rw[c4];exact ⟨rfl,hf,wn,wk,d0,d1,d2,d3,d4,hm,hs'⟩
theorem Nd.see {w:World} {a:Addr} {e:E} (h:Nd w a e):∃ b o vn x cap,a=⟨b,o,none⟩/\w.cell? ⟨b,o,none⟩=some (.int .i64 e.kind)/\w.cell? ⟨b,o+1,none⟩=some (.string e.text)/\w.cell? ⟨b,o+2,none⟩=some (.int .i64 e.num) /\
  w.cell? ⟨b,o+3,none⟩=some vn/\w.cell? ⟨b,o+4,none⟩=some (.slice x e.kids.length cap)/\e.kids.length<=cap/\cap<=maxLen/\Texts 0 w e.names vn/\e.text.size<=maxLen/\(Lit.int .i64 e.kind).wf=true/\(Lit.int .i64 e.num).wf=true /\
  ∀ i,i<e.kids.length->∃ kb ko,x=some ⟨kb,ko,none⟩/\kid w a i=⟨kb,ko+i*5,none⟩:=by
 obtain ⟨b,o,s⟩:=a;obtain ⟨h1,h2,vn,vk,c0,c1,c2,c3,c4,hn,hs⟩:=h;simp only at h1 c0 c1 c2 c3 c4;subst h1;obtain ⟨n1,n2,n3,n4,x,cap,rfl,hm,hc⟩:=zaw.1 hn;refine ⟨b,o,vn,x,cap,rfl,c0,c1,c2,c3,c4,hm.1,hm.2,n4,n3,n1,n2,fun i hi=>?_⟩
 obtain ⟨kb,ko,rfl,-,-⟩:=hc (by omega);refine ⟨kb,ko,rfl,?_⟩;unfold kid;rw[c4]
theorem texts_one {lo lo':Nat} {w:World} {xs ys:List ByteArray} {v:Value} (h:Texts lo w xs v) (h':Texts lo' w ys v):xs=ys:=by
 obtain ⟨a,cap,rfl,-,-,hc⟩:=h;obtain ⟨a',cap',he,-,-,hc'⟩:=h';simp only[Value.slice.injEq] at he;obtain ⟨rfl,hl,rfl⟩:=he;apply List.ext_getElem hl;intro i h1 h2;obtain ⟨b,off,rfl,-,hd⟩:=hc (by omega);obtain ⟨b',off',hx,-,hd'⟩:=hc' (by omega);cases hx;have e1:=hd i h1;have e2:=hd' i h2;rw[e1] at e2
 injection e2 with e3
 injection e3
theorem Nd.one {w:World}:∀ (e:E) {a:Addr} {e':E},Nd w a e->Nd w a e'->e=e':=by
 refine ind fun k t n ns ks ih=>?_
 intro a e' h h';have hk:=fun i=>h.kid_is (i:=i)
 have hk':=fun i=>h'.kid_is (i:=i)
 obtain ⟨-,-,vn,vk,c0,c1,c2,c3,c4,hn,-⟩:=h;obtain ⟨-,-,vn',vk',c0',c1',c2',c3',c4',hn',-⟩:=h';obtain ⟨k',t',n',ns',ks'⟩:=e';simp only[E.kind,E.text,E.num,E.kids] at *;rw[c0] at c0';rw[c1] at c1';rw[c2] at c2';rw[c3] at c3';rw[c4] at c4';cases c0';cases c1';cases c2';cases c3';cases c4';obtain ⟨-,-,-,hx,y,cap,rfl,-,-⟩:=zaw.1 hn;obtain ⟨-,-,-,hx',y',cap',he,-,-⟩:=zaw.1 hn';obtain rfl:=texts_one hx hx'
 simp only[Value.slice.injEq] at he;obtain ⟨rfl,hl,rfl⟩:=he;simp only[E.kids,E.names] at *
 congr 1
 apply List.ext_getElem hl;intro i h1 h2;exact ih _ (List.getElem_mem h1) (hk i h1) (hk' i h2)
noncomputable def treeAt (w:World) (a:Addr):E:=@dite _ (∃ e,Nd w a e) (Classical.propDecidable _) (fun h=>h.choose) (fun _=>default)
theorem Nd.tree {w:World} {a:Addr} {e:E} (h:Nd w a e):treeAt w a=e:=by unfold treeAt;rw[dif_pos ⟨e,h⟩];exact Nd.one _ (Exists.choose_spec (⟨e,h⟩:∃ e,Nd w a e)) h
theorem node_box {w:World} {lo:Nat} {e:E} {vn vk:Value} (hn:NodeAt lo w e vn vk) (hs:Soft lo w e vk) (T:TypeId):
  Nd (w.alloc (.cells #[.int .i64 e.kind,.string e.text,.int .i64 e.num,vn,vk] T)) ⟨w.heap.size,0,none⟩ e:=by
 have hb:Below w.heap.size w (w.alloc (.cells #[.int .i64 e.kind,.string e.text,.int .i64 e.num,vn,vk] T)):=(zB _ _).alloc (zL _) _;refine ⟨rfl,fun o=>by go_simp,vn,vk,?_,?_,?_,?_,?_,NodeAt.keep (Nat.zero_le _) (kept_below hb) _ _ _ hn,Soft.keep (Nat.zero_le _) (keptF_below hb) _ _ hs⟩
 all_goals go_simp
end Go.Proofs.YtbigfeblomfflaaGreatDoor.Soft
