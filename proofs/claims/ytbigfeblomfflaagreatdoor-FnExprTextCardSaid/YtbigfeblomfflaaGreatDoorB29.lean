/-
  Placed
-/
import Derived.Test.YtbigfeblomfflaaGreatDoorB36
namespace Go.Proofs.YtbigfeblomfflaaGreatDoor.Placed
open Go.RowKit
open Strs Tree
inductive T where
 | mk (kind:Int) (text:ByteArray) (num:Int) (names:List ByteArray) (vn vk:Value) (kids:List T)
namespace T
def kind:T->Int|mk k _ _ _ _ _ _=>k
def text:T->ByteArray|mk _ t _ _ _ _ _=>t
def num:T->Int|mk _ _ n _ _ _ _=>n
def names:T->List ByteArray|mk _ _ _ ns _ _ _=>ns
def vn:T->Value|mk _ _ _ _ v _ _=>v
def vk:T->Value|mk _ _ _ _ _ v _=>v
def kids:T->List T|mk _ _ _ _ _ _ ks=>ks
end T
theorem ind {P:T->Prop} (h:∀ k t n ns vn vk ks,(∀ e,e∈ks->P e)->P (.mk k t n ns vn vk ks)):∀ e,P e:=by
 intro e;refine T.rec (motive_1:=P) (motive_2:=fun l=>∀ e,e∈l->P e) ?_ ?_ ?_ e
 ·intro k t n ns vn vk ks ih;exact h k t n ns vn vk ks ih
 ·intro e he;cases he
 ·intro a l ha hl e he
  cases he with
  | head=>exact ha
  | tail _ h=>exact hl e h
mutual
def toE:T->E
 | .mk k t n ns _ _ ks=>.mk k t n ns (toEs ks)
def toEs:List T->List E
 | []=>[]
 | t::ts=>toE t::toEs ts
end
theorem toEs_map (ts:List T):toEs ts=ts.map toE:=by
 induction ts with
 | nil=>rfl
 | cons t ts ih=>rw[toEs,ih];rfl
theorem toEs_append (a b:List T):toEs (a++b)=toEs a++toEs b:=by simp[toEs_map]
theorem toEs_len (a:List T):(toEs a).length=a.length:=by simp[toEs_map]
theorem toE_kind (t:T):(toE t).kind=t.kind:=by cases t;rw[toE];rfl
theorem toE_text (t:T):(toE t).text=t.text:=by cases t;rw[toE];rfl
theorem toE_num (t:T):(toE t).num=t.num:=by cases t;rw[toE];rfl
def blk (v:Value):List Nat:=v.ownBlock.toList
mutual
def foot:T->List Nat
 | .mk _ _ _ _ vn vk ks=>blk vn++(blk vk++foots ks)
def foots:List T->List Nat
 | []=>[]
 | t::ts=>foot t++foots ts
end
theorem foots_append (a b:List T):foots (a++b)=foots a++foots b:=by
 induction a with
 | nil=>rfl
 | cons t ts ih=>rw[List.cons_append,foots,foots,ih,List.append_assoc]
theorem foot_eq (t:T):foot t=blk t.vn++(blk t.vk++foots t.kids):=by cases t;rw[foot];rfl
theorem foot_mem {t:T} {ts:List T} (h:t∈ts):∀ b,b∈foot t->b∈foots ts:=by
 induction ts with
 | nil=>cases h
 | cons x xs ih=>
  intro b hb;rw[foots];rcases List.mem_cons.1 h with rfl|h
  ·exact List.mem_append_left _ hb
  ·exact List.mem_append_right _ (ih h b hb)
theorem foots_mem {ts:List T} {b:Nat} (h:b∈foots ts):∃ t,t∈ts/\b∈foot t:=by
 induction ts with
 | nil=>cases h
 | cons x xs ih=>
  rw[foots] at h;rcases List.mem_append.1 h with h|h
  ·exact ⟨x,by simp,h⟩
  ·obtain ⟨t,h1,h2⟩:=ih h
   exact ⟨t,by simp[h1],h2⟩
def cells (t:T):List Value:=[.int .i64 t.kind,.string t.text,.int .i64 t.num,t.vn,t.vk]
def agg (t:T):Value:=.agg #[.int .i64 t.kind,.string t.text,.int .i64 t.num,t.vn,t.vk]
def row (ts:List T):List Value:=ts.flatMap cells
theorem row_append (a b:List T):row (a++b)=row a++row b:=by simp[row]
theorem row_cons (t:T) (ts:List T):row (t::ts)=cells t++row ts:=rfl
theorem row_len (ts:List T):(row ts).length=ts.length*5:=by
 induction ts with
 | nil=>rfl
 | cons t ts ih=>rw[row_cons,List.length_append,ih];simp[cells];omega
theorem row_at (ts:List T) (i:Nat) (h:i<ts.length):(row ts)[i*5]?=some (.int .i64 ts[i].kind)/\(row ts)[i*5+1]?=some (.string ts[i].text)/\(row ts)[i*5+2]?=some (.int .i64 ts[i].num)/\(row ts)[i*5+3]?=some ts[i].vn/\(row ts)[i*5+4]?=some ts[i].vk:=by
 induction ts generalizing i with
 | nil=>simp at h
 | cons t ts ih=>
  have e:row (t::ts)=.int .i64 t.kind::.string t.text::.int .i64 t.num::t.vn::t.vk::row ts:=rfl;rw[e];cases i with
  | zero=>exact ⟨rfl,rfl,rfl,rfl,rfl⟩
  | succ i=>
   have:=ih i (by simpa using h);rw[show (i+1)*5=i*5+1+1+1+1+1 by omega]
   simpa using this
mutual
def Good (w:World):T->Prop
 | .mk k t n ns vn vk ks=>(Lit.int .i64 k).wf=true/\(Lit.int .i64 n).wf=true/\t.size<=maxLen/\(∀ x,x∈ns->x.size<=maxLen)/\w.ownsRow 0 9 1 vn ns.length (ns.map Value.string)/\w.ownsRow 0 27 5 vk ks.length (row ks)/\Goods w ks
def Goods (w:World):List T->Prop
 | []=>True
 | t::ts=>Good w t/\Goods w ts
end
theorem goods_iff {w:World} {ts:List T}:Goods w ts↔∀ t,t∈ts->Good w t:=by
 induction ts with
 | nil=>simp[Goods]
 | cons t ts ih=>rw[Goods,ih];simp
theorem Goods.append {w:World} {a b:List T} (h:Goods w a) (k:Goods w b):Goods w (a++b):=by
 rw[goods_iff] at *;intro t ht;rcases List.mem_append.1 ht with h1|h1
 ·exact h t h1
 ·exact k t h1
structure Parts (w:World) (t:T):Prop where
 kind:(Lit.int .i64 t.kind).wf=true
 num:(Lit.int .i64 t.num).wf=true
 text:t.text.size<=maxLen
 texts:∀ x,x∈t.names->x.size<=maxLen
 names:w.ownsRow 0 9 1 t.vn t.names.length (t.names.map Value.string)
 kids:w.ownsRow 0 27 5 t.vk t.kids.length (row t.kids)
 goods:Goods w t.kids
theorem good_iff {w:World} {t:T}:Good w t↔Parts w t:=by
 cases t with
 | mk k t n ns vn vk ks=>rw[Good];exact ⟨fun ⟨a,b,c,d,e,f,g⟩=>⟨a,b,c,d,e,f,g⟩,fun ⟨a,b,c,d,e,f,g⟩=>⟨a,b,c,d,e,f,g⟩⟩
theorem own_frame {w w':World} {base:Nat} {e:TypeId} {size:Nat} {v:Value} {n:Nat} {xs:List Value} (h:w.ownsRow base e size v n xs) (hk:∀ b,b∈blk v->w'.heap[b]?=w.heap[b]?):w'.ownsRow base e size v n xs:=by
 refine ⟨h.1,?_⟩;rcases h.2 with hn|⟨g,cap,cur,rfl,hbg,hgg,rest⟩
 ·exact .inl hn
 ·refine .inr ⟨g,cap,cur,rfl,hbg,?_,rest⟩
  rw[hk g (by simp[blk,Value.ownBlock])];exact hgg
theorem own_base {w:World} {base base':Nat} {e:TypeId} {size:Nat} {v:Value} {n:Nat} {xs:List Value} (h:w.ownsRow base e size v n xs) (hk:∀ b,b∈blk v->base'<=b):w.ownsRow base' e size v n xs:=by
 refine ⟨h.1,?_⟩;rcases h.2 with hn|⟨g,cap,cur,rfl,hbg,hgg,rest⟩
 ·exact .inl hn
 ·exact .inr ⟨g,cap,cur,rfl,hk g (by simp[blk,Value.ownBlock]),hgg,rest⟩
theorem own_zero {w:World} {base:Nat} {e:TypeId} {size:Nat} {v:Value} {n:Nat} {xs:List Value} (h:w.ownsRow base e size v n xs):w.ownsRow 0 e size v n xs:=own_base h fun _ _=>Nat.zero_le _
theorem own_blk {w:World} {base:Nat} {e:TypeId} {size:Nat} {v:Value} {n:Nat} {xs:List Value} (h:w.ownsRow base e size v n xs):∀ b,b∈blk v->base<=b/\b<w.heap.size:=by
 intro b hb;have:v.ownBlock=some b:=by simpa [blk] using hb
 exact h.lt b this
theorem blk_nodup (v:Value):(blk v).Nodup:=by unfold blk;cases v.ownBlock<;>simp
theorem Good.frame {w w':World}:∀ t,Good w t->(∀ b,b∈foot t->w'.heap[b]?=w.heap[b]?)->Good w' t:=by
 refine ind fun k t n ns vn vk ks ih=>?_
 intro h hk;rw[Good] at h ⊢;obtain ⟨h1,h2,h3,h4,h5,h6,h7⟩:=h;rw[foot] at hk;refine ⟨h1,h2,h3,h4,own_frame h5 fun b hb=>hk b (by simp[hb]),own_frame h6 fun b hb=>hk b (by simp[hb]),?_⟩
 rw[goods_iff] at h7 ⊢;exact fun x hx=>ih x hx (h7 x hx) fun b hb=>hk b (by simp[foot_mem hx b hb])
theorem Goods.frame {w w':World} {ts:List T} (h:Goods w ts) (hk:∀ b,b∈foots ts->w'.heap[b]?=w.heap[b]?):Goods w' ts:=by rw[goods_iff] at h ⊢;exact fun x hx=>Good.frame x (h x hx) fun b hb=>hk b (foot_mem hx b hb)
theorem Good.lt {w:World}:∀ t,Good w t->∀ b,b∈foot t->b<w.heap.size:=by
 refine ind fun k t n ns vn vk ks ih=>?_
 intro h b hb;rw[Good] at h;obtain ⟨h1,h2,h3,h4,h5,h6,h7⟩:=h;rw[foot] at hb;rcases List.mem_append.1 hb with hb|hb
 ·exact (own_blk h5 b hb).2
 rcases List.mem_append.1 hb with hb|hb
 ·exact (own_blk h6 b hb).2
 rw[goods_iff] at h7;obtain ⟨x,hx,hb⟩:=foots_mem hb;exact ih x hx (h7 x hx) b hb
theorem Goods.lt {w:World} {ts:List T} (h:Goods w ts):∀ b,b∈foots ts->b<w.heap.size:=by
 intro b hb
 induction ts with
 | nil=>cases hb
 | cons x xs ih=>
  rw[Goods] at h;rw[foots] at hb;rcases List.mem_append.1 hb with hb|hb
  ·exact Good.lt x h.1 b hb
  ·exact ih h.2 hb
theorem own_texts {w:World} {lo:Nat} {v:Value} {xs:List ByteArray} (h:w.ownsRow lo 9 1 v xs.length (xs.map Value.string)) (hx:∀ x,x∈xs->x.size<=maxLen):Texts lo w xs v:=by
 have h':=h;obtain ⟨_,⟨rfl,hn⟩|⟨g,cap,cur,rfl,hbg,hg,hnc,hcm,_,_⟩⟩:=h
 ·exact ⟨none,0,by rw[hn],⟨by omega,by unfold maxLen;omega⟩,hx,fun hp=>by omega⟩
 ·refine ⟨_,cap,rfl,⟨hnc,hcm⟩,hx,fun hp=>⟨g,0,rfl,hbg,fun j hj=>?_⟩⟩
  rw[Nat.zero_add,h'.cellAt j (by omega)];simp[hj]
theorem Good.node {w:World} {lo:Nat}:∀ t,Good w t->(∀ b,b∈foot t->lo<=b)->NodeAt lo w (toE t) t.vn t.vk:=by
 refine ind fun k t n ns vn vk ks ih=>?_
 intro h hl;rw[Good] at h;obtain ⟨h1,h2,h3,h4,h5,h6,h7⟩:=h;rw[foot] at hl;rw[goods_iff] at h7;rw[toE];have hnl:∀ b,b∈blk vn->lo<=b:=fun b hb=>hl b (by simp[hb])
 refine zaw.2 ⟨h1,h2,h3,own_texts (own_base h5 hnl) h4,?_⟩;show KidsAt lo w (toEs ks) vk
 have hkl:∀ b,b∈blk vk->lo<=b:=fun b hb=>hl b (by simp[hb])
 have h6':=h6;obtain ⟨_,⟨rfl,hn⟩|⟨g,cap,cur,rfl,hbg,hg,hnc,hcm,_,_⟩⟩:=h6
 ·exact ⟨none,0,by rw[toEs_len,hn],⟨by rw[toEs_len];omega,by unfold maxLen;omega⟩,fun hp=>by rw[toEs_len] at hp;omega⟩
 ·refine ⟨_,cap,by rw[toEs_len],⟨by rw[toEs_len];exact hnc,hcm⟩,fun hp=>⟨g,0,rfl,hkl g (by simp[blk,Value.ownBlock]),?_⟩⟩
  rw[row_iff];intro i hi;rw[toEs_len] at hi;have hr:=row_at ks i hi;have he:(toEs ks)[i]'(by rw[toEs_len];exact hi)=toE ks[i]:=by simp[toEs_map]
  have hmem:ks[i]∈ks:=List.getElem_mem _;rw[he];refine ⟨ks[i].vn,ks[i].vk,?_,?_,?_,?_,?_,ih _ hmem (h7 _ hmem) fun b hb=>hl b (by simp[foot_mem hmem b hb])⟩
  ·rw[Nat.zero_add,h6'.cellAt _ (by omega),hr.1,toE_kind]
  ·rw[Nat.zero_add,h6'.cellAt _ (by omega),hr.2.1,toE_text]
  ·rw[Nat.zero_add,h6'.cellAt _ (by omega),hr.2.2.1,toE_num]
  ·rw[Nat.zero_add,h6'.cellAt _ (by omega),hr.2.2.2.1]
  ·rw[Nat.zero_add,h6'.cellAt _ (by omega),hr.2.2.2.2]
theorem Good.soft {w:World} {lo:Nat}:∀ t,Good w t->(∀ b,b∈foot t->lo<=b)->Soft.Soft lo w (toE t) t.vk:=by
 refine ind fun k t n ns vn vk ks ih=>?_
 intro h hl;rw[Good] at h;obtain ⟨h1,h2,h3,h4,h5,h6,h7⟩:=h;rw[foot] at hl;rw[goods_iff] at h7;rw[Soft.soft_iff,toE];show Soft.SoftKids lo w (toEs ks) vk
 have hkl:∀ b,b∈blk vk->lo<=b:=fun b hb=>hl b (by simp[hb])
 have h6':=h6;obtain ⟨_,⟨rfl,hn⟩|⟨g,cap,cur,rfl,hbg,hg,hnc,hcm,_,_⟩⟩:=h6
 ·exact ⟨none,0,by rw[toEs_len,hn],fun hp=>by rw[toEs_len] at hp;omega⟩
 ·refine ⟨_,cap,by rw[toEs_len],fun hp=>⟨g,0,rfl,hkl g (by simp[blk,Value.ownBlock]),fun o=>h6'.frozenAt o,?_⟩⟩
  rw[Soft.softrow_iff];intro i hi;rw[toEs_len] at hi;have hr:=row_at ks i hi;have he:(toEs ks)[i]'(by rw[toEs_len];exact hi)=toE ks[i]:=by simp[toEs_map]
  have hmem:ks[i]∈ks:=List.getElem_mem _;rw[he];exact ⟨ks[i].vk,by rw[Nat.zero_add,h6'.cellAt _ (by omega),hr.2.2.2.2],ih _ hmem (h7 _ hmem) fun b hb=>hl b (by simp[foot_mem hmem b hb])⟩
structure Own (base:Nat) (w:World) (t:T):Prop where
 good:Good w t
 nd:(foot t).Nodup
 lo:∀ b,b∈foot t->base<=b
structure Owns (base:Nat) (w:World) (ts:List T):Prop where
 good:Goods w ts
 nd:(foots ts).Nodup
 lo:∀ b,b∈foots ts->base<=b
theorem Own.lt {base:Nat} {w:World} {t:T} (h:Own base w t):∀ b,b∈foot t->b<w.heap.size:=Good.lt t h.good
theorem Owns.lt {base:Nat} {w:World} {t:List T} (h:Owns base w t):∀ b,b∈foots t->b<w.heap.size:=Goods.lt h.good
theorem Own.mono {base base':Nat} {w:World} {t:T} (h:Own base w t) (hb:base'<=base):Own base' w t:=⟨h.good,h.nd,fun b k=>Nat.le_trans hb (h.lo b k)⟩
theorem Owns.mono {base base':Nat} {w:World} {t:List T} (h:Owns base w t) (hb:base'<=base):Owns base' w t:=⟨h.good,h.nd,fun b k=>Nat.le_trans hb (h.lo b k)⟩
theorem Own.frame {base:Nat} {w w':World} {t:T} (h:Own base w t) (hk:∀ b,b∈foot t->w'.heap[b]?=w.heap[b]?):Own base w' t:=⟨Good.frame t h.good hk,h.nd,h.lo⟩
theorem Owns.frame {base:Nat} {w w':World} {t:List T} (h:Owns base w t) (hk:∀ b,b∈foots t->w'.heap[b]?=w.heap[b]?):Owns base w' t:=⟨h.good.frame hk,h.nd,h.lo⟩
theorem Own.below {base:Nat} {w w':World} {t:T} (h:Own base w t) (hb:Below w.heap.size w w'):Own base w' t:=h.frame fun b k=>hb.block b (h.lt b k)
theorem Owns.below {base:Nat} {w w':World} {t:List T} (h:Owns base w t) (hb:Below w.heap.size w w'):Owns base w' t:=h.frame fun b k=>hb.block b (h.lt b k)
theorem Own.reads {base:Nat} {w:World} {t:T} (h:Own base w t):Reads base w (toE t) (agg t):=⟨t.vn,t.vk,by unfold agg;rw[toE_kind,toE_text,toE_num],Good.node t h.good h.lo⟩
theorem Owns.nil (base:Nat) (w:World):Owns base w []:=⟨trivial,List.nodup_nil,(fun _ h=>nomatch h)⟩
theorem Own.one {base:Nat} {w:World} {t:T} (h:Own base w t):Owns base w [t]:=
 ⟨⟨h.good,trivial⟩,by rw[foots,foots,List.append_nil];exact h.nd,fun b hb=>by (rw[foots,foots,List.append_nil] at hb;exact h.lo b hb)⟩
theorem Owns.append {base:Nat} {w:World} {a b:List T} (h:Owns base w a) (k:Owns base w b) (hd:∀ x,x∈foots a->x∉foots b):Owns base w (a++b):=by
 refine ⟨h.good.append k.good,?_,fun x hx=>?_⟩
 ·rw[foots_append,List.nodup_append]
  exact ⟨h.nd,k.nd,fun x hx y hy e=>hd x hx (e▸hy)⟩
 ·rw[foots_append] at hx
  rcases List.mem_append.1 hx with h1|h1
  ·exact h.lo x h1
  ·exact k.lo x h1
theorem own_node {base:Nat} {w:World} {k n:Int} {s:ByteArray} {ns:List ByteArray} {vn vk:Value} {ks:List T} (hk:(Lit.int .i64 k).wf=true) (hn:(Lit.int .i64 n).wf=true) (hs:s.size<=maxLen) (hx:∀ x,x∈ns->x.size<=maxLen)
  (h1:w.ownsRow base 9 1 vn ns.length (ns.map Value.string)) (h2:w.ownsRow base 27 5 vk ks.length (row ks)) (h3:Owns base w ks)
  (d1:∀ b,b∈blk vn->b∉blk vk/\b∉foots ks) (d2:∀ b,b∈blk vk->b∉foots ks):Own base w (.mk k s n ns vn vk ks):=by
 refine ⟨?_,?_,fun b hb=>?_⟩
 ·rw[Good]
  exact ⟨hk,hn,hs,hx,own_zero h1,own_zero h2,h3.good⟩
 ·rw[foot,List.nodup_append]
  refine ⟨blk_nodup _,?_,fun x hx y hy e=>?_⟩
  ·rw[List.nodup_append]
   exact ⟨blk_nodup _,h3.nd,fun x hx y hy e=>d2 x hx (e▸hy)⟩
  ·subst e
   rcases List.mem_append.1 hy with h|h
   ·exact (d1 x hx).1 h
   ·exact (d1 x hx).2 h
 ·rw[foot] at hb
  rcases List.mem_append.1 hb with h|h
  ·exact (own_blk h1 b h).1
  rcases List.mem_append.1 h with h|h
  ·exact (own_blk h2 b h).1
  ·exact h3.lo b h
theorem Own.kids {base:Nat} {w:World} {t:T} (h:Own base w t):w.ownsRow base 27 5 t.vk t.kids.length (row t.kids)/\Owns base w t.kids/\∀ b,b∈blk t.vk->b∉foots t.kids:=by have hp:=good_iff.1 h.good;have hn:=h.nd;have hl:=h.lo;rw[foot_eq] at hn hl;rw[List.nodup_append,List.nodup_append] at hn;exact ⟨own_base hp.kids fun b hb=>hl b (by simp[hb]),⟨hp.goods,hn.2.1.2.1,fun b hb=>hl b (by simp[hb])⟩,fun b hb hc=>hn.2.1.2.2 b hb b hc rfl⟩
theorem nil_row {w:World} (base:Nat) (e:TypeId) (size:Nat):w.ownsRow base e size (.slice none 0 0) 0 []:=⟨by simp,.inl ⟨rfl,rfl⟩⟩
theorem blk_nil:blk (.slice none 0 0)=[]:=rfl
theorem own_leaf {base:Nat} {w:World} {k n:Int} {s:ByteArray} (hk:(Lit.int .i64 k).wf=true) (hn:(Lit.int .i64 n).wf=true) (hs:s.size<=maxLen):Own base w (.mk k s n [] (.slice none 0 0) (.slice none 0 0) []):=
 own_node hk hn hs (fun _ h=>nomatch h) (nil_row _ _ _) (nil_row _ _ _) (Owns.nil _ _) (fun _ h=>nomatch h) (fun _ h=>nomatch h)
end Go.Proofs.YtbigfeblomfflaaGreatDoor.Placed
