/-
  Placed
-/
import Derived.Test.YtlmhgeanknhcfaaGreatDoorB4
namespace Go.Proofs.YtlmhgeanknhcfaaGreatDoor.Placed
open Go.RowKit
open Strs Tree
inductive T where
 | mk (kind:Int) (text:ByteArray) (num:Int) (names:List ByteArray) (vn vk:Value) (kids:List T)
namespace T
def kind:T->Int|mk k _ _ _ _ _ _=>k
def text:T->ByteArray|mk _ t _ _ _ _ _=>t
def num:T->Int|mk _ _ n _ _ _ _=>n
def names:T->List ByteArray|mk _ _ _ ns _ _ _=>ns
def vn:T->Value|mk _ _ _ _ v _ _=>v
def vk:T->Value|mk _ _ _ _ _ v _=>v
def kids:T->List T|mk _ _ _ _ _ _ ks=>ks
end T
theorem ind {P:T->Prop} (h:∀ k t n ns vn vk ks,(∀ e,e∈ks->P e)->P (.mk k t n ns vn vk ks)):∀ e,P e:=by
 intro e;refine T.rec (motive_1:=P) (motive_2:=fun l=>∀ e,e∈l->P e) ?_ ?_ ?_ e
 ·intro k t n ns vn vk ks ih;exact h k t n ns vn vk ks ih
 ·intro e he;cases he
 ·intro a l ha hl e he
  cases he with
  | head=>exact ha
  | tail _ h=>exact hl e h
mutual
def toE:T->E
 | .mk k t n ns _ _ ks=>.mk k t n ns (zg2 ks)
def zg2:List T->List E
 | []=>[]
 | t::ts=>toE t::zg2 ts
end
theorem zn7 (ts:List T):zg2 ts=ts.map toE:=by
 induction ts with
 | nil=>rfl
 | cons t ts ih=>rw[zg2,ih];rfl
theorem zfv (a b:List T):zg2 (a++b)=zg2 a++zg2 b:=by simp[zn7]
theorem zdw (a:List T):(zg2 a).length=a.length:=by simp[zn7]
def blk (v:Value):List Nat:=v.ownBlock.toList
mutual
def foot:T->List Nat
 | .mk _ _ _ _ vn vk ks=>blk vn++(blk vk++zah ks)
def zah:List T->List Nat
 | []=>[]
 | t::ts=>foot t++zah ts
end
theorem zan (a b:List T):zah (a++b)=zah a++zah b:=by
 induction a with
 | nil=>rfl
 | cons t ts ih=>rw[List.cons_append,zah,zah,ih,List.append_assoc]
theorem zpy (t:T):foot t=blk t.vn++(blk t.vk++zah t.kids):=by cases t;rw[foot];rfl
theorem zda {t:T} {ts:List T} (h:t∈ts):∀ b,b∈foot t->b∈zah ts:=by
 induction ts with
 | nil=>cases h
 | cons x xs ih=>
  intro b hb;rw[zah];rcases List.mem_cons.1 h with rfl|h
  ·exact List.mem_append_left _ hb
  ·exact List.mem_append_right _ (ih h b hb)
theorem zmc {ts:List T} {b:Nat} (h:b∈zah ts):∃ t,t∈ts/\b∈foot t:=by
 induction ts with
 | nil=>cases h
 | cons x xs ih=>
  rw[zah] at h;rcases List.mem_append.1 h with h|h
  ·exact ⟨x,by simp,h⟩
  ·obtain ⟨t,h1,h2⟩:=ih h
   exact ⟨t,by simp[h1],h2⟩
def cells (t:T):List Value:=[.int .i64 t.kind,.string t.text,.int .i64 t.num,t.vn,t.vk]
def agg (t:T):Value:=.agg #[.int .i64 t.kind,.string t.text,.int .i64 t.num,t.vn,t.vk]
def row (ts:List T):List Value:=ts.flatMap cells
theorem zfr (a b:List T):row (a++b)=row a++row b:=by simp[row]
theorem zho (t:T) (ts:List T):row (t::ts)=cells t++row ts:=rfl
theorem zd7 (ts:List T):(row ts).length=ts.length*5:=by
 induction ts with
 | nil=>rfl
 | cons t ts ih=>rw[zho,List.length_append,ih];simp[cells];omega
mutual
def Good (w:World):T->Prop
 | .mk k t n ns vn vk ks=>(Lit.int .i64 k).wf=true/\(Lit.int .i64 n).wf=true/\t.size<=maxLen/\(∀ x,x∈ns->x.size<=maxLen)/\w.ownsRow 0 9 1 vn ns.length (ns.map Value.string)/\w.ownsRow 0 25 5 vk ks.length (row ks)/\zb2 w ks
def zb2 (w:World):List T->Prop
 | []=>True
 | t::ts=>Good w t/\zb2 w ts
end
theorem zam {w:World} {ts:List T}:zb2 w ts↔∀ t,t∈ts->Good w t:=by
 induction ts with
 | nil=>simp[zb2]
 | cons t ts ih=>rw[zb2,ih];simp
theorem zb2.append {w:World} {a b:List T} (h:zb2 w a) (k:zb2 w b):zb2 w (a++b):=by
 rw[zam] at *;intro t ht;rcases List.mem_append.1 ht with h1|h1
 ·exact h t h1
 ·exact k t h1
structure yew (w:World) (t:T):Prop where
 kind:(Lit.int .i64 t.kind).wf=true
 num:(Lit.int .i64 t.num).wf=true
 text:t.text.size<=maxLen
 texts:∀ x,x∈t.names->x.size<=maxLen
 names:w.ownsRow 0 9 1 t.vn t.names.length (t.names.map Value.string)
 kids:w.ownsRow 0 25 5 t.vk t.kids.length (row t.kids)
 ycy:zb2 w t.kids
theorem zfy {w:World} {t:T}:Good w t↔yew w t:=by
 cases t with
 | mk k t n ns vn vk ks=>rw[Good];exact ⟨fun ⟨a,b,c,d,e,f,g⟩=>⟨a,b,c,d,e,f,g⟩,fun ⟨a,b,c,d,e,f,g⟩=>⟨a,b,c,d,e,f,g⟩⟩
theorem zd0 {w w':World} {base:Nat} {e:TypeId} {size:Nat} {v:Value} {n:Nat} {xs:List Value} (h:w.ownsRow base e size v n xs) (hk:∀ b,b∈blk v->w'.heap[b]?=w.heap[b]?):w'.ownsRow base e size v n xs:=by
 refine ⟨h.1,?_⟩;rcases h.2 with hn|⟨g,cap,cur,rfl,hbg,hgg,rest⟩
 ·exact .inl hn
 ·refine .inr ⟨g,cap,cur,rfl,hbg,?_,rest⟩
  rw[hk g (by simp[blk,Value.ownBlock])];exact hgg
theorem zfx {w:World} {base base':Nat} {e:TypeId} {size:Nat} {v:Value} {n:Nat} {xs:List Value} (h:w.ownsRow base e size v n xs) (hk:∀ b,b∈blk v->base'<=b):w.ownsRow base' e size v n xs:=by
 refine ⟨h.1,?_⟩;rcases h.2 with hn|⟨g,cap,cur,rfl,hbg,hgg,rest⟩
 ·exact .inl hn
 ·exact .inr ⟨g,cap,cur,rfl,hk g (by simp[blk,Value.ownBlock]),hgg,rest⟩
theorem zlw {w:World} {base:Nat} {e:TypeId} {size:Nat} {v:Value} {n:Nat} {xs:List Value} (h:w.ownsRow base e size v n xs):w.ownsRow 0 e size v n xs:=zfx h fun _ _=>Nat.zero_le _
theorem zdb {w:World} {base:Nat} {e:TypeId} {size:Nat} {v:Value} {n:Nat} {xs:List Value} (h:w.ownsRow base e size v n xs):∀ b,b∈blk v->base<=b/\b<w.heap.size:=by
 intro b hb;have:v.ownBlock=some b:=by simpa [blk] using hb
 exact h.lt b this
theorem zlz (v:Value):(blk v).Nodup:=by unfold blk;cases v.ownBlock<;>simp
theorem Good.frame {w w':World}:∀ t,Good w t->(∀ b,b∈foot t->w'.heap[b]?=w.heap[b]?)->Good w' t:=by
 refine ind fun k t n ns vn vk ks ih=>?_
 intro h hk;rw[Good] at h ⊢;obtain ⟨h1,h2,h3,h4,h5,h6,h7⟩:=h;rw[foot] at hk;refine ⟨h1,h2,h3,h4,zd0 h5 fun b hb=>hk b (by simp[hb]),zd0 h6 fun b hb=>hk b (by simp[hb]),?_⟩
 rw[zam] at h7 ⊢;exact fun x hx=>ih x hx (h7 x hx) fun b hb=>hk b (by simp[zda hx b hb])
theorem zb2.frame {w w':World} {ts:List T} (h:zb2 w ts) (hk:∀ b,b∈zah ts->w'.heap[b]?=w.heap[b]?):zb2 w' ts:=by rw[zam] at h ⊢;exact fun x hx=>Good.frame x (h x hx) fun b hb=>hk b (zda hx b hb)
theorem Good.lt {w:World}:∀ t,Good w t->∀ b,b∈foot t->b<w.heap.size:=by
 refine ind fun k t n ns vn vk ks ih=>?_
 intro h b hb;rw[Good] at h;obtain ⟨h1,h2,h3,h4,h5,h6,h7⟩:=h;rw[foot] at hb;rcases List.mem_append.1 hb with hb|hb
 ·exact (zdb h5 b hb).2
 rcases List.mem_append.1 hb with hb|hb
 ·exact (zdb h6 b hb).2
 rw[zam] at h7;obtain ⟨x,hx,hb⟩:=zmc hb;exact ih x hx (h7 x hx) b hb
theorem zb2.lt {w:World} {ts:List T} (h:zb2 w ts):∀ b,b∈zah ts->b<w.heap.size:=by
 intro b hb
 induction ts with
 | nil=>cases hb
 | cons x xs ih=>
  rw[zb2] at h;rw[zah] at hb;rcases List.mem_append.1 hb with hb|hb
  ·exact Good.lt x h.1 b hb
  ·exact ih h.2 hb
structure Own (base:Nat) (w:World) (t:T):Prop where
 good:Good w t
 nd:(foot t).Nodup
 lo:∀ b,b∈foot t->base<=b
structure zmr (base:Nat) (w:World) (ts:List T):Prop where
 good:zb2 w ts
 nd:(zah ts).Nodup
 lo:∀ b,b∈zah ts->base<=b
theorem Own.lt {base:Nat} {w:World} {t:T} (h:Own base w t):∀ b,b∈foot t->b<w.heap.size:=Good.lt t h.good
theorem zmr.lt {base:Nat} {w:World} {t:List T} (h:zmr base w t):∀ b,b∈zah t->b<w.heap.size:=zb2.lt h.good
theorem Own.mono {base base':Nat} {w:World} {t:T} (h:Own base w t) (hb:base'<=base):Own base' w t:=⟨h.good,h.nd,fun b k=>Nat.le_trans hb (h.lo b k)⟩
theorem zmr.mono {base base':Nat} {w:World} {t:List T} (h:zmr base w t) (hb:base'<=base):zmr base' w t:=⟨h.good,h.nd,fun b k=>Nat.le_trans hb (h.lo b k)⟩
theorem Own.frame {base:Nat} {w w':World} {t:T} (h:Own base w t) (hk:∀ b,b∈foot t->w'.heap[b]?=w.heap[b]?):Own base w' t:=⟨Good.frame t h.good hk,h.nd,h.lo⟩
theorem zmr.frame {base:Nat} {w w':World} {t:List T} (h:zmr base w t) (hk:∀ b,b∈zah t->w'.heap[b]?=w.heap[b]?):zmr base w' t:=⟨h.good.frame hk,h.nd,h.lo⟩
theorem Own.below {base:Nat} {w w':World} {t:T} (h:Own base w t) (hb:Below w.heap.size w w'):Own base w' t:=h.frame fun b k=>hb.block b (h.lt b k)
theorem zmr.below {base:Nat} {w w':World} {t:List T} (h:zmr base w t) (hb:Below w.heap.size w w'):zmr base w' t:=h.frame fun b k=>hb.block b (h.lt b k)
theorem zmr.nil (base:Nat) (w:World):zmr base w []:=⟨trivial,List.nodup_nil,(fun _ h=>nomatch h)⟩
theorem Own.one {base:Nat} {w:World} {t:T} (h:Own base w t):zmr base w [t]:=
 ⟨⟨h.good,trivial⟩,by rw[zah,zah,List.append_nil];exact h.nd,fun b hb=>by (rw[zah,zah,List.append_nil] at hb;exact h.lo b hb)⟩
theorem zmr.append {base:Nat} {w:World} {a b:List T} (h:zmr base w a) (k:zmr base w b) (hd:∀ x,x∈zah a->x∉zah b):zmr base w (a++b):=by
 refine ⟨h.good.append k.good,?_,fun x hx=>?_⟩
 ·rw[zan,List.nodup_append]
  exact ⟨h.nd,k.nd,fun x hx y hy e=>hd x hx (e▸hy)⟩
 ·rw[zan] at hx
  rcases List.mem_append.1 hx with h1|h1
  ·exact h.lo x h1
  ·exact k.lo x h1
theorem zjn {base:Nat} {w:World} {k n:Int} {s:ByteArray} {ns:List ByteArray} {vn vk:Value} {ks:List T} (hk:(Lit.int .i64 k).wf=true) (hn:(Lit.int .i64 n).wf=true) (hs:s.size<=maxLen) (hx:∀ x,x∈ns->x.size<=maxLen)
  (h1:w.ownsRow base 9 1 vn ns.length (ns.map Value.string)) (h2:w.ownsRow base 25 5 vk ks.length (row ks)) (h3:zmr base w ks)
  (d1:∀ b,b∈blk vn->b∉blk vk/\b∉zah ks) (d2:∀ b,b∈blk vk->b∉zah ks):Own base w (.mk k s n ns vn vk ks):=by
 refine ⟨?_,?_,fun b hb=>?_⟩
 ·rw[Good]
  exact ⟨hk,hn,hs,hx,zlw h1,zlw h2,h3.good⟩
 ·rw[foot,List.nodup_append]
  refine ⟨zlz _,?_,fun x hx y hy e=>?_⟩
  ·rw[List.nodup_append]
   exact ⟨zlz _,h3.nd,fun x hx y hy e=>d2 x hx (e▸hy)⟩
  ·subst e
   rcases List.mem_append.1 hy with h|h
   ·exact (d1 x hx).1 h
   ·exact (d1 x hx).2 h
 ·rw[foot] at hb
  rcases List.mem_append.1 hb with h|h
  ·exact (zdb h1 b h).1
  rcases List.mem_append.1 h with h|h
  ·exact (zdb h2 b h).1
  ·exact h3.lo b h
theorem Own.kids {base:Nat} {w:World} {t:T} (h:Own base w t):w.ownsRow base 25 5 t.vk t.kids.length (row t.kids)/\zmr base w t.kids/\∀ b,b∈blk t.vk->b∉zah t.kids:=by have hp:=zfy.1 h.good;have hn:=h.nd;have hl:=h.lo;rw[zpy] at hn hl;rw[List.nodup_append,List.nodup_append] at hn;exact ⟨zfx hp.kids fun b hb=>hl b (by simp[hb]),⟨hp.ycy,hn.2.1.2.1,fun b hb=>hl b (by simp[hb])⟩,fun b hb hc=>hn.2.1.2.2 b hb b hc rfl⟩
theorem zg0 {w:World} (base:Nat) (e:TypeId) (size:Nat):w.ownsRow base e size (.slice none 0 0) 0 []:=⟨by simp,.inl ⟨rfl,rfl⟩⟩
theorem z6j:blk (.slice none 0 0)=[]:=rfl
theorem zih {base:Nat} {w:World} {k n:Int} {s:ByteArray} (hk:(Lit.int .i64 k).wf=true) (hn:(Lit.int .i64 n).wf=true) (hs:s.size<=maxLen):Own base w (.mk k s n [] (.slice none 0 0) (.slice none 0 0) []):=
 zjn hk hn hs (fun _ h=>nomatch h) (zg0 _ _ _) (zg0 _ _ _) (zmr.nil _ _) (fun _ h=>nomatch h) (fun _ h=>nomatch h)
end Go.Proofs.YtlmhgeanknhcfaaGreatDoor.Placed
