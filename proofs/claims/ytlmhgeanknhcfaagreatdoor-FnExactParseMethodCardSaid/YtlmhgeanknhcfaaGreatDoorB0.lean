/-
  Data Types DataStr DataBox EqExpr EqMethod DataTree
-/
import Derived.Test.YtlmhgeanknhcfaaGreatDoorB3
set_option maxHeartbeats 8000000
set_option maxRecDepth 10000
namespace Go.Proofs.YtlmhgeanknhcfaaGreatDoor.Data
open Go.RowKit
open Strs
inductive P where
 | int (n:Int)
 | str (s:ByteArray)
 | bool (b:Bool)
 | row (k:Nat) (ps:List P)
inductive D where
 | int (n:Int)
 | str (s:ByteArray)
 | bool (b:Bool)
 | row (t k:Nat) (v:Value) (ds:List D)
instance:Inhabited D:=⟨.int 0⟩
instance:Inhabited P:=⟨.int 0⟩
theorem ind {Q:D->Prop} (h1:∀ n,Q (.int n)) (h2:∀ s,Q (.str s)) (h3:∀ b,Q (.bool b)) (h:∀ t k v ds,(∀ d,d∈ds->Q d)->Q (.row t k v ds)):∀ d,Q d:=by
 intro d;refine D.rec (motive_1:=Q) (motive_2:=fun l=>∀ e,e∈l->Q e) h1 h2 h3 h ?_ ?_ d
 ·intro e he;cases he
 ·intro a l ha hl e he
  cases he with
  | head=>exact ha
  | tail _ h=>exact hl e h
def val:D->Value
 | .int n=>.int .i64 n
 | .str s=>.string s
 | .bool b=>.bool b
 | .row _ _ v _=>v
def vals (ds:List D):List Value:=ds.map val
def agg (ds:List D):Value:=.agg (vals ds).toArray
theorem zeh (a b:List D):vals (a++b)=vals a++vals b:=by simp[vals]
theorem zfj (a:List D):(vals a).length=a.length:=by simp[vals]
theorem zjt (a:List D) (j:Nat) (h:j<a.length):(vals a)[j]?=some (val a[j]):=by simp[vals,h]
mutual
def erase:D->P
 | .int n=>.int n
 | .str s=>.str s
 | .bool b=>.bool b
 | .row _ k _ ds=>.row k (zaa ds)
def zaa:List D->List P
 | []=>[]
 | d::ds=>erase d::zaa ds
end
theorem zj5 (ds:List D):zaa ds=ds.map erase:=by
 induction ds with
 | nil=>rfl
 | cons t ts ih=>rw[zaa,ih];rfl
theorem zao (a b:List D):zaa (a++b)=zaa a++zaa b:=by simp[zj5]
theorem za0 (a:List D):(zaa a).length=a.length:=by simp[zj5]
theorem zha (d:D) (ds:List D):zaa (d::ds)=erase d::zaa ds:=by rw[zaa]
theorem zek {ds:List D} {a b:List P} (h:zaa ds=a++b):∃ x y,ds=x++y/\zaa x=a/\zaa y=b:=by
 refine ⟨ds.take a.length,ds.drop a.length,(List.take_append_drop _ _).symm,?_,?_⟩
 ·rw[zj5] at *
  rw[List.map_take,h];simp
 ·rw[zj5] at *
  rw[List.map_drop,h];simp
mutual
def weight:P->Nat
 | .int _=>0
 | .str s=>s.size
 | .bool _=>0
 | .row k ps=>ps.length / k+weights ps
def weights:List P->Nat
 | []=>0
 | p::ps=>weight p+weights ps
end
theorem zbb (a b:List P):weights (a++b)=weights a+weights b:=by
 induction a with
 | nil=>simp[weights]
 | cons e es ih=>simp[weights,ih];omega
mutual
def cnt:P->Nat
 | .int _=>1
 | .str _=>1
 | .bool _=>1
 | .row _ ps=>zba ps
def zba:List P->Nat
 | []=>0
 | p::ps=>cnt p+zba ps
end
theorem zaz (a b:List P):zba (a++b)=zba a+zba b:=by
 induction a with
 | nil=>simp[zba]
 | cons e es ih=>simp[zba,ih];omega
def zox:P->Nat
 | .row _ ps=>zba ps
 | _=>0
def zdt:List P->Nat
 | []=>0
 | p::ps=>zox p+zdt ps
def blk (v:Value):List Nat:=v.ownBlock.toList
mutual
def foot:D->List Nat
 | .int _=>[]
 | .str _=>[]
 | .bool _=>[]
 | .row _ _ v ds=>blk v++zah ds
def zah:List D->List Nat
 | []=>[]
 | d::ds=>foot d++zah ds
end
theorem ze1 (d:D) (ds:List D):zah (d::ds)=foot d++zah ds:=by rw[zah]
theorem zan (a b:List D):zah (a++b)=zah a++zah b:=by
 induction a with
 | nil=>rfl
 | cons t ts ih=>rw[List.cons_append,zah,zah,ih,List.append_assoc]
theorem zda {d:D} {ds:List D} (h:d∈ds):∀ b,b∈foot d->b∈zah ds:=by
 induction ds with
 | nil=>cases h
 | cons x xs ih=>
  intro b hb;rw[zah];rcases List.mem_cons.1 h with rfl|h
  ·exact List.mem_append_left _ hb
  ·exact List.mem_append_right _ (ih h b hb)
theorem zmc {ds:List D} {b:Nat} (h:b∈zah ds):∃ d,d∈ds/\b∈foot d:=by
 induction ds with
 | nil=>cases h
 | cons x xs ih=>
  rw[zah] at h;rcases List.mem_append.1 h with h|h
  ·exact ⟨x,by simp,h⟩
  ·obtain ⟨t,h1,h2⟩:=ih h
   exact ⟨t,by simp[h1],h2⟩
def Kept (lo:Nat) (w w':World):Prop:=∀ b o v,lo<=b->w.cell? ⟨b,o,none⟩=some v->w'.cell? ⟨b,o,none⟩=some v
theorem za1 {lo:Nat} {w w':World} (h:Below w.heap.size w w'):Kept lo w w':=fun _ _ _ _ hc=>cell_keep h hc
theorem Kept.trans {lo:Nat} {w w' w'':World} (h:Kept lo w w') (h':Kept lo w' w''):Kept lo w w'':=fun b o v hb hc=>h' b o v hb (h b o v hb hc)
mutual
def Holds (lo:Nat) (w:World):D->Prop
 | .int n=>(Lit.int .i64 n).wf=true
 | .str s=>s.size<=maxLen
 | .bool _=>True
 | .row _ k v ds=>(∃ a n cap,v=.slice a n cap/\0<k/\ds.length=n*k/\n<=cap/\cap<=maxLen/\(0<n->∃ b o,a=some ⟨b,o,none⟩/\lo<=b/\∀ j (h:j<ds.length),w.cell? ⟨b,o+j,none⟩=some (val ds[j])))/\zat lo w ds
def zat (lo:Nat) (w:World):List D->Prop
 | []=>True
 | d::ds=>Holds lo w d/\zat lo w ds
end
theorem zbo {lo:Nat} {w:World} {ds:List D}:zat lo w ds↔∀ d,d∈ds->Holds lo w d:=by
 induction ds with
 | nil=>simp[zat]
 | cons t ts ih=>rw[zat,ih];simp
theorem zat.append {lo:Nat} {w:World} {a b:List D}:zat lo w (a++b)↔zat lo w a/\zat lo w b:=by
 rw[zbo,zbo,zbo];constructor
 ·exact fun h=>⟨fun d hd=>h d (by simp[hd]),fun d hd=>h d (by simp[hd])⟩
 ·rintro ⟨h1,h2⟩ d hd
  rcases List.mem_append.1 hd with h|h
  ·exact h1 d h
  ·exact h2 d h
theorem Holds.keep {lo hi:Nat} {w w':World} (hl:lo<=hi) (hk:Kept hi w w'):∀ d,Holds hi w d->Holds lo w' d:=by
 refine ind (fun n h=>?_) (fun s h=>?_) (fun b h=>?_) fun t k v ds ih h=>?_
 ·rw[Holds] at h ⊢;exact h
 ·rw[Holds] at h ⊢;exact h
 ·rw[Holds];trivial
 ·rw[Holds] at h ⊢
  obtain ⟨⟨a,n,cap,rfl,h0,h1,h2,h3,h4⟩,h5⟩:=h;rw[zbo] at h5 ⊢;refine ⟨⟨a,n,cap,rfl,h0,h1,h2,h3,fun hp=>?_⟩,fun d hd=>ih d hd (h5 d hd)⟩
  obtain ⟨b,o,rfl,hb,hc⟩:=h4 hp;exact ⟨b,o,rfl,Nat.le_trans hl hb,fun j hj=>hk _ _ _ hb (hc j hj)⟩
theorem zat.keep {lo hi:Nat} {w w':World} {ds:List D} (h:zat hi w ds) (hl:lo<=hi) (hk:Kept hi w w'):zat lo w' ds:=by rw[zbo] at h ⊢;exact fun d hd=>Holds.keep hl hk d (h d hd)
theorem zat.below {lo:Nat} {w w':World} {ds:List D} (h:zat lo w ds) (hb:Below w.heap.size w w'):zat lo w' ds:=h.keep (zL _) (za1 hb)
theorem Holds.below {lo:Nat} {w w':World} {d:D} (h:Holds lo w d) (hb:Below w.heap.size w w'):Holds lo w' d:=Holds.keep (zL _) (za1 hb) d h
mutual
def Good (w:World):D->Prop
 | .int n=>(Lit.int .i64 n).wf=true
 | .str s=>s.size<=maxLen
 | .bool _=>True
 | .row t k v ds=>(∃ n,0<k/\ds.length=n*k/\w.ownsRow 0 t k v n (vals ds))/\zb2 w ds
def zb2 (w:World):List D->Prop
 | []=>True
 | d::ds=>Good w d/\zb2 w ds
end
theorem zam {w:World} {ds:List D}:zb2 w ds↔∀ d,d∈ds->Good w d:=by
 induction ds with
 | nil=>simp[zb2]
 | cons t ts ih=>rw[zb2,ih];simp
theorem zb2.append {w:World} {a b:List D}:zb2 w (a++b)↔zb2 w a/\zb2 w b:=by
 rw[zam,zam,zam];constructor
 ·exact fun h=>⟨fun d hd=>h d (by simp[hd]),fun d hd=>h d (by simp[hd])⟩
 ·rintro ⟨h1,h2⟩ d hd
  rcases List.mem_append.1 hd with h|h
  ·exact h1 d h
  ·exact h2 d h
theorem zd0 {w w':World} {base:Nat} {e:TypeId} {size:Nat} {v:Value} {n:Nat} {xs:List Value} (h:w.ownsRow base e size v n xs) (hk:∀ b,b∈blk v->w'.heap[b]?=w.heap[b]?):w'.ownsRow base e size v n xs:=by
 refine ⟨h.1,?_⟩;rcases h.2 with hn|⟨g,cap,cur,rfl,hbg,hgg,rest⟩
 ·exact .inl hn
 ·refine .inr ⟨g,cap,cur,rfl,hbg,?_,rest⟩
  rw[hk g (by simp[blk,Value.ownBlock])];exact hgg
theorem zfx {w:World} {base base':Nat} {e:TypeId} {size:Nat} {v:Value} {n:Nat} {xs:List Value} (h:w.ownsRow base e size v n xs) (hk:∀ b,b∈blk v->base'<=b):w.ownsRow base' e size v n xs:=by
 refine ⟨h.1,?_⟩;rcases h.2 with hn|⟨g,cap,cur,rfl,hbg,hgg,rest⟩
 ·exact .inl hn
 ·exact .inr ⟨g,cap,cur,rfl,hk g (by simp[blk,Value.ownBlock]),hgg,rest⟩
theorem zlw {w:World} {base:Nat} {e:TypeId} {size:Nat} {v:Value} {n:Nat} {xs:List Value} (h:w.ownsRow base e size v n xs):w.ownsRow 0 e size v n xs:=zfx h fun _ _=>Nat.zero_le _
theorem zdb {w:World} {base:Nat} {e:TypeId} {size:Nat} {v:Value} {n:Nat} {xs:List Value} (h:w.ownsRow base e size v n xs):∀ b,b∈blk v->base<=b/\b<w.heap.size:=by
 intro b hb;have:v.ownBlock=some b:=by simpa [blk] using hb
 exact h.lt b this
theorem zlz (v:Value):(blk v).Nodup:=by unfold blk;cases v.ownBlock<;>simp
theorem zg0 {w:World} (base:Nat) (e:TypeId) (size:Nat):w.ownsRow base e size (.slice none 0 0) 0 []:=⟨by simp,.inl ⟨rfl,rfl⟩⟩
theorem Good.frame {w w':World}:∀ d,Good w d->(∀ b,b∈foot d->w'.heap[b]?=w.heap[b]?)->Good w' d:=by
 refine ind (fun n h _=>?_) (fun s h _=>?_) (fun b h _=>?_) fun t k v ds ih h hk=>?_
 ·rw[Good] at h ⊢;exact h
 ·rw[Good] at h ⊢;exact h
 ·rw[Good];trivial
 ·rw[Good] at h ⊢
  obtain ⟨⟨n,h0,h1,h2⟩,h3⟩:=h;rw[foot] at hk;rw[zam] at h3 ⊢;exact ⟨⟨n,h0,h1,zd0 h2 fun b hb=>hk b (by simp[hb])⟩,fun d hd=>ih d hd (h3 d hd) fun b hb=>hk b (by simp[zda hd b hb])⟩
theorem zb2.frame {w w':World} {ds:List D} (h:zb2 w ds) (hk:∀ b,b∈zah ds->w'.heap[b]?=w.heap[b]?):zb2 w' ds:=by rw[zam] at h ⊢;exact fun x hx=>Good.frame x (h x hx) fun b hb=>hk b (zda hx b hb)
theorem Good.lt {w:World}:∀ d,Good w d->∀ b,b∈foot d->b<w.heap.size:=by
 refine ind (fun n h b hb=>?_) (fun s h b hb=>?_) (fun b h b hb=>?_) fun t k v ds ih h b hb=>?_
 ·rw[foot] at hb;cases hb
 ·rw[foot] at hb;cases hb
 ·rw[foot] at hb;cases hb
 ·rw[Good] at h
  obtain ⟨⟨n,h0,h1,h2⟩,h3⟩:=h;rw[foot] at hb;rcases List.mem_append.1 hb with hb|hb
  ·exact (zdb h2 b hb).2
  rw[zam] at h3;obtain ⟨x,hx,hb⟩:=zmc hb;exact ih x hx (h3 x hx) b hb
theorem zb2.lt {w:World} {ds:List D} (h:zb2 w ds):∀ b,b∈zah ds->b<w.heap.size:=by intro b hb;obtain ⟨x,hx,hb⟩:=zmc hb;exact Good.lt x (zam.1 h x hx) b hb
theorem Good.holds {w:World} {lo:Nat}:∀ d,Good w d->(∀ b,b∈foot d->lo<=b)->Holds lo w d:=by
 refine ind (fun n h _=>?_) (fun s h _=>?_) (fun b h _=>?_) fun t k v ds ih h hl=>?_
 ·rw[Good] at h;rw[Holds];exact h
 ·rw[Good] at h;rw[Holds];exact h
 ·rw[Holds];trivial
 ·rw[Good] at h
  obtain ⟨⟨n,h0,h1,h2⟩,h3⟩:=h;rw[foot] at hl;rw[Holds];rw[zam] at h3;refine ⟨?_,zbo.2 fun d hd=>ih d hd (h3 d hd) fun b hb=>hl b (by simp[zda hd b hb])⟩
  have h2':=h2;obtain ⟨_,⟨rfl,hn⟩|⟨g,cap,cur,rfl,hbg,hg,hnc,hcm,_,_⟩⟩:=h2
  ·exact ⟨none,0,0,rfl,h0,by rw[h1,hn],zL _,by unfold maxLen;omega,fun hp=>by omega⟩
  ·refine ⟨_,n,cap,rfl,h0,h1,hnc,hcm,fun hp=>⟨g,0,rfl,hl g (by simp[blk,Value.ownBlock]),fun j hj=>?_⟩⟩
   rw[Nat.zero_add,h2'.cellAt j (by omega)];exact zjt ds j hj
structure Own (base:Nat) (w:World) (ds:List D):Prop where
 good:zb2 w ds
 nd:(zah ds).Nodup
 lo:∀ b,b∈zah ds->base<=b
theorem Own.lt {base:Nat} {w:World} {ds:List D} (h:Own base w ds):∀ b,b∈zah ds->b<w.heap.size:=zb2.lt h.good
theorem Own.mono {base base':Nat} {w:World} {ds:List D} (h:Own base w ds) (hb:base'<=base):Own base' w ds:=⟨h.good,h.nd,fun b k=>Nat.le_trans hb (h.lo b k)⟩
theorem Own.frame {base:Nat} {w w':World} {ds:List D} (h:Own base w ds) (hk:∀ b,b∈zah ds->w'.heap[b]?=w.heap[b]?):Own base w' ds:=⟨h.good.frame hk,h.nd,h.lo⟩
theorem Own.below {base:Nat} {w w':World} {ds:List D} (h:Own base w ds) (hb:Below w.heap.size w w'):Own base w' ds:=h.frame fun b k=>hb.block b (h.lt b k)
theorem Own.holds {base:Nat} {w:World} {ds:List D} (h:Own base w ds):zat base w ds:=
 zbo.2 fun d hd=>Good.holds d (zam.1 h.good d hd) fun b hb=>h.lo b (zda hd b hb)
theorem Own.nil (base:Nat) (w:World):Own base w []:=⟨trivial,List.nodup_nil,(fun _ h=>nomatch h)⟩
theorem Own.append {base:Nat} {w:World} {a b:List D} (h:Own base w a) (k:Own base w b) (hd:∀ x,x∈zah a->x∉zah b):Own base w (a++b):=by
 refine ⟨zb2.append.2 ⟨h.good,k.good⟩,?_,fun x hx=>?_⟩
 ·rw[zan,List.nodup_append]
  exact ⟨h.nd,k.nd,fun x hx y hy e=>hd x hx (e▸hy)⟩
 ·rw[zan] at hx
  rcases List.mem_append.1 hx with h1|h1
  ·exact h.lo x h1
  ·exact k.lo x h1
theorem Own.left {base:Nat} {w:World} {a b:List D} (h:Own base w (a++b)):Own base w a:=by have hn:=h.nd;rw[zan,List.nodup_append] at hn;exact ⟨(zb2.append.1 h.good).1,hn.1,fun x hx=>h.lo x (by rw[zan];simp[hx])⟩
theorem Own.right {base:Nat} {w:World} {a b:List D} (h:Own base w (a++b)):Own base w b:=by have hn:=h.nd;rw[zan,List.nodup_append] at hn;exact ⟨(zb2.append.1 h.good).2,hn.2.1,fun x hx=>h.lo x (by rw[zan];simp[hx])⟩
theorem Own.apart {base:Nat} {w:World} {a b:List D} (h:Own base w (a++b)):∀ x,x∈zah a->x∉zah b:=by have hn:=h.nd;rw[zan,List.nodup_append] at hn;exact fun x hx hy=>hn.2.2 x hx x hy rfl
theorem zv0 {base:Nat} {w:World} {s:ByteArray} (h:s.size<=maxLen):Own base w [.str s]:=⟨by rw[zb2,zb2,Good];exact ⟨h,trivial⟩,by simp[zah,foot],fun b hb=>by simp[zah,foot] at hb⟩
theorem z7j {base:Nat} {w:World} {x:Bool}:Own base w [.bool x]:=⟨by rw[zb2,zb2,Good];exact ⟨trivial,trivial⟩,by simp[zah,foot],fun b hb=>by simp[zah,foot] at hb⟩
structure Row (base:Nat) (w:World) (t k:Nat) (v:Value) (ds:List D):Prop where
 own:∃ n,0<k/\ds.length=n*k/\w.ownsRow base t k v n (vals ds)
 kids:Own base w ds
 apart:∀ b,b∈blk v->b∉zah ds
theorem row_iff {base:Nat} {w:World} {t k:Nat} {v:Value} {ds:List D}:Own base w [.row t k v ds]↔Row base w t k v ds:=by
 constructor
 ·rintro ⟨h1,h2,h3⟩
  rw[zb2,zb2,Good] at h1;obtain ⟨⟨⟨n,h0,h4,h5⟩,h6⟩,-⟩:=h1;rw[zah,zah,foot,List.append_nil] at h2 h3;rw[List.nodup_append] at h2;exact ⟨⟨n,h0,h4,zfx h5 fun b hb=>h3 b (by simp[hb])⟩,⟨h6,h2.2.1,fun b hb=>h3 b (by simp[hb])⟩,fun b hb hc=>h2.2.2 b hb b hc rfl⟩
 ·rintro ⟨⟨n,h0,h4,h5⟩,h6,h7⟩
  refine ⟨?_,?_,?_⟩
  ·rw[zb2,zb2,Good]
   exact ⟨⟨⟨n,h0,h4,zlw h5⟩,h6.good⟩,trivial⟩
  ·rw[zah,zah,foot,List.append_nil,List.nodup_append]
   exact ⟨zlz _,h6.nd,fun x hx y hy e=>h7 x hx (e▸hy)⟩
  ·rw[zah,zah,foot,List.append_nil]
   intro b hb;rcases List.mem_append.1 hb with hb|hb
   ·exact (zdb h5 b hb).1
   ·exact h6.lo b hb
theorem Row.nil (base:Nat) (w:World) (t k:Nat) (h:0<k):Row base w t k (.slice none 0 0) []:=⟨⟨0,h,by simp,zg0 _ _ _⟩,Own.nil _ _,fun _ h=>nomatch h⟩
theorem Row.below {base:Nat} {w w':World} {t k:Nat} {v:Value} {ds:List D} (h:Row base w t k v ds) (hb:Below w.heap.size w w'):Row base w' t k v ds:=row_iff.1 ((row_iff.2 h).below hb)
theorem Row.mono {base base':Nat} {w:World} {t k:Nat} {v:Value} {ds:List D} (h:Row base w t k v ds) (hb:base'<=base):Row base' w t k v ds:=row_iff.1 ((row_iff.2 h).mono hb)
structure Exc (F:List Nat) (w w':World):Prop where
 os:w'.os=w.os
 tape:w'.tape=w.tape
 output:w'.output=w.output
 size:w.heap.size<=w'.heap.size
 block:∀ b,b<w.heap.size->b∉F->w'.heap[b]?=w.heap[b]?
theorem Exc.refl (F:List Nat) (w:World):Exc F w w:=⟨rfl,rfl,rfl,zL _,fun _ _ _=>rfl⟩
theorem Exc.trans {F:List Nat} {a b c:World} (h:Exc F a b) (k:Exc F b c):Exc F a c:=
 ⟨k.os.trans h.os,k.tape.trans h.tape,k.output.trans h.output,Nat.le_trans h.size k.size,fun x hx hf=>(k.block x (Nat.lt_of_lt_of_le hx h.size) hf).trans (h.block x hx hf)⟩
theorem Exc.mono {F F':List Nat} {a b:World} (h:Exc F a b) (hs:∀ x,x∈F->x∈F'):Exc F' a b:=
 ⟨h.os,h.tape,h.output,h.size,fun x hx hf=>h.block x hx fun e=>hf (hs x e)⟩
theorem Exc.below {F:List Nat} {a b c:World} (h:Exc F a b) (k:Below b.heap.size b c):Exc F a c:=
 h.trans ⟨k.os,k.tape,k.output,k.size,fun x hx _=>k.block x hx⟩
theorem Exc.set {F:List Nat} {a b:World} (h:Exc F a b) {g o:Nat} (v:Value) (hg:g∈F):Exc F a (b.setCell ⟨g,o,none⟩ v):=
 h.trans ⟨rfl,rfl,rfl,by simp[World.setCell],fun x _ hf=>Below.heap_setCell _ _ _ _ (fun e=>hf (by show x∈F;rw[show x=g from e];exact hg))⟩
theorem Exc.low {F:List Nat} {a b:World} {B:Nat} (h:Exc F a b) (hB:B<=a.heap.size) (hF:∀ x,x∈F->B<=x):Below B a b:=
 ⟨h.os,h.tape,h.output,h.size,fun x hx=>h.block x (by omega) fun e=>by have:=hF x e;omega⟩
theorem Exc.own {F:List Nat} {a b:World} {base:Nat} {e:TypeId} {size:Nat} {v:Value} {n:Nat} {xs:List Value} (h:Exc F a b) (ho:a.ownsRow base e size v n xs) (hd:∀ x,x∈blk v->x∉F):b.ownsRow base e size v n xs:=
 zd0 ho fun x hx=>h.block x (zdb ho x hx).2 (hd x hx)
theorem Exc.keeps {F:List Nat} {a b:World} {base:Nat} {ds:List D} (h:Exc F a b) (ho:Own base a ds) (hd:∀ x,x∈zah ds->x∉F):Own base b ds:=
 ho.frame fun x hx=>h.block x (ho.lt x hx) (hd x hx)
mutual
def marked (k:Nat):D->D
 | .int _=>.int (k:Int)
 | .str _=>.str (Mark.mark (k:Int))
 | .bool _=>.bool ((k:Int) % 3==0)
 | .row t n v ds=>.row t n v (zac k ds)
def zac (k:Nat):List D->List D
 | []=>[]
 | d::ds=>marked k d::zac (k+cnt (erase d)) ds
end
theorem zbt (k:Nat) (a b:List D):zac k (a++b)=zac k a++zac (k+zba (zaa a)) b:=by
 induction a generalizing k with
 | nil=>simp[zac,zba,zaa]
 | cons t ts ih=>rw[List.cons_append,zac,zac,ih,zaa,zba,List.cons_append,Nat.add_assoc]
theorem zbr (k:Nat) (a:List D):(zac k a).length=a.length:=by
 induction a generalizing k with
 | nil=>rfl
 | cons t ts ih=>rw[zac,List.length_cons,ih];rfl
theorem zxv:∀ d:D,∀ k,foot (marked k d)=foot d:=by
 refine ind (fun n k=>?_) (fun s k=>?_) (fun b k=>?_) fun t n v ds ih k=>?_
 ·rw[marked,foot,foot]
 ·rw[marked,foot,foot]
 ·rw[marked,foot,foot]
 ·rw[marked,foot,foot]
  have h:∀ (l:List D),(∀ e,e∈l->∀ k,foot (marked k e)=foot e)->∀ k,zah (zac k l)=zah l:=by
   intro l
   induction l with
   | nil=>intro _ _;rfl
   | cons a l ih2=>intro hl k;rw[zac,zah,zah,hl a (by simp) k,ih2 (fun e he=>hl e (by simp[he]))]
  rw[h ds ih]
theorem zbq (l:List D):∀ k,zah (zac k l)=zah l:=by
 induction l with
 | nil=>intro _;rfl
 | cons a l ih2=>intro k;rw[zac,zah,zah,zxv a k,ih2]
def zko (k:Nat):D->D
 | .row t n v ds=>.row t n v (zac k ds)
 | d=>d
def zd9 (k:Nat):List D->List D
 | []=>[]
 | d::ds=>zko k d::zd9 (k+zox (erase d)) ds
end Go.Proofs.YtlmhgeanknhcfaaGreatDoor.Data
namespace Go.Proofs.YtlmhgeanknhcfaaGreatDoor.Data
open Go.RowKit
open Strs
inductive Ty where
 | int
 | str
 | bool
 | row (i:Nat)
def z3j:List Ty:=[.str,.bool,.row 0,.row 0,.row 2]
def ydz:List Ty:=[.int,.str,.int,.int,.row 7]
def zzc:List Ty:=[.str,.int,.bool,.int,.int]++ydz
def ydt:List Ty:=[.int,.int,.str]
def env:Nat->List Ty
 | 0=>[.str]
 | 1=>[.int]
 | 2=>[.int,.str,.int,.row 0,.row 2]
 | 3=>z3j
 | 4=>[.str,.str,.row 0,.row 3]
 | 5=>.row 4::z3j
 | 6=>[.str,.int,.row 0]
 | 7=>ydz
 | 8=>zzc
 | 9=>[.row 6,.row 8]++zzc
 | 10=>ydt
 | 11=>[.int,.int,.row 10,.row 1]
 | 12=>[.row 6,.row 11,.row 0,.int,.int,.int]
 | 13=>[.int,.str,.str,.row 0,.int]
 | 14=>[.int,.int,.int,.str]
 | 15=>[.bool,.int,.int,.row 14]
 | 16=>[.int,.bool,.str,.int]
 | 17=>[.row 6,.row 15,.row 16,.int]
 | 18=>[.int,.str,.int]
 | _=>[]
mutual
inductive Fit:Ty->P->Prop
 | int (n:Int):Fit .int (.int n)
 | str (s:ByteArray):Fit .str (.str s)
 | bool (b:Bool):Fit .bool (.bool b)
 | row (i k:Nat) (ps:List P) (hk:k=(env i).length) (h:za7 i ps):Fit (.row i) (.row k ps)
inductive za7:Nat->List P->Prop
 | nil (i:Nat):za7 i []
 | cons (i:Nat) (ps item rest:List P) (e:ps=item++rest) (h:zdc (env i) item) (h2:za7 i rest):za7 i ps
inductive zdc:List Ty->List P->Prop
 | nil:zdc [] []
 | cons (t:Ty) (ts:List Ty) (p:P) (ps:List P) (h:Fit t p) (h2:zdc ts ps):zdc (t::ts) (p::ps)
end
theorem zbh {ds:List D} (h:zdc [] (zaa ds)):ds=[]:=by
 cases ds with
 | nil=>rfl
 | cons d ds=>rw[zaa] at h;cases h
theorem zlx {t:Ty} {ts:List Ty} {ds:List D} (h:zdc (t::ts) (zaa ds)):∃ d es,ds=d::es/\Fit t (erase d)/\zdc ts (zaa es):=by
 cases ds with
 | nil=>rw[zaa] at h;cases h
 | cons d ds=>
  rw[zaa] at h;cases h with
  | cons _ _ _ _ h1 h2=>exact ⟨d,ds,rfl,h1,h2⟩
theorem yb7 {d:D} (h:Fit .int (erase d)):∃ n,d=.int n:=by
 cases d with
 | int n=>exact ⟨n,rfl⟩
 | str s=>rw[erase] at h;cases h
 | bool b=>rw[erase] at h;cases h
 | row t k v ds=>rw[erase] at h;cases h
theorem ycq {d:D} (h:Fit .str (erase d)):∃ s,d=.str s:=by
 cases d with
 | int n=>rw[erase] at h;cases h
 | str s=>exact ⟨s,rfl⟩
 | bool b=>rw[erase] at h;cases h
 | row t k v ds=>rw[erase] at h;cases h
theorem z8d {d:D} (h:Fit .bool (erase d)):∃ b,d=.bool b:=by
 cases d with
 | int n=>rw[erase] at h;cases h
 | str s=>rw[erase] at h;cases h
 | bool b=>exact ⟨b,rfl⟩
 | row t k v ds=>rw[erase] at h;cases h
theorem yb0 {i:Nat} {d:D} (h:Fit (.row i) (erase d)):∃ t v ds,d=.row t (env i).length v ds/\za7 i (zaa ds):=by
 cases d with
 | int n=>rw[erase] at h;cases h
 | str s=>rw[erase] at h;cases h
 | bool b=>rw[erase] at h;cases h
 | row t k v ds=>
  rw[erase] at h;cases h with
  | row _ _ _ hk h=>subst hk;exact ⟨t,v,ds,rfl,h⟩
theorem zd8 {ts:List Ty} {ds:List D} (h:zdc (.int::ts) (zaa ds)):∃ n es,ds=.int n::es/\zdc ts (zaa es):=by obtain ⟨d,es,rfl,h1,h2⟩:=zlx h;obtain ⟨n,rfl⟩:=yb7 h1;exact ⟨n,es,rfl,h2⟩
theorem za4 {ts:List Ty} {ds:List D} (h:zdc (.str::ts) (zaa ds)):∃ n es,ds=.str n::es/\zdc ts (zaa es):=by obtain ⟨d,es,rfl,h1,h2⟩:=zlx h;obtain ⟨n,rfl⟩:=ycq h1;exact ⟨n,es,rfl,h2⟩
theorem zcf {ts:List Ty} {ds:List D} (h:zdc (.bool::ts) (zaa ds)):∃ n es,ds=.bool n::es/\zdc ts (zaa es):=by obtain ⟨d,es,rfl,h1,h2⟩:=zlx h;obtain ⟨n,rfl⟩:=z8d h1;exact ⟨n,es,rfl,h2⟩
theorem zak {i k:Nat} (hk:(env i).length=k) {ts:List Ty} {ds:List D} (h:zdc (.row i::ts) (zaa ds)):∃ t v fs es,ds=.row t k v fs::es/\za7 i (zaa fs)/\zdc ts (zaa es):=by subst hk;obtain ⟨d,es,rfl,h1,h2⟩:=zlx h;obtain ⟨t,v,fs,rfl,h3⟩:=yb0 h1;exact ⟨t,v,fs,es,rfl,h3,h2⟩
theorem zfe {ts:List Ty} {ps:List P} (h:zdc ts ps):ps.length=ts.length:=by
 induction ts generalizing ps with
 | nil=>cases h;rfl
 | cons t ts ih=>
  cases h with
  | cons _ _ _ _ h1 h2=>simp[ih h2]
theorem zif {i:Nat} {ps:List P} (h:za7 i ps):ps=[]\/∃ item rest,ps=item++rest/\zdc (env i) item/\za7 i rest:=by
 cases h with
 | nil=>exact .inl rfl
 | cons _ _ item rest e h1 h2=>exact .inr ⟨item,rest,e,h1,h2⟩
theorem zct {i:Nat} {ds:List D} (h:za7 i (zaa ds)):ds=[]\/∃ item rest,ds=item++rest/\zdc (env i) (zaa item)/\za7 i (zaa rest):=by
 rcases zif h with e|⟨item,rest,e,h1,h2⟩
 ·left
  have:=congrArg List.length e;rw[za0] at this;exact List.eq_nil_of_length_eq_zero this
 ·obtain ⟨x,y,rfl,rfl,rfl⟩:=zek e
  exact .inr ⟨x,y,rfl,h1,h2⟩
def Cells (B:Nat) (ds:List D) (wr:World):Prop:=B<wr.heap.size/\∀ j (h:j<ds.length),wr.cell? ⟨B,j,none⟩=some (val ds[j])
theorem Cells.step {B:Nat} {ds:List D} {wr w':World} (h:Cells B ds wr) (hb:Below wr.heap.size wr w'):Cells B ds w':=
 ⟨Nat.lt_of_lt_of_le h.1 hb.size,fun j hj=>cell_keep hb (h.2 j hj)⟩
theorem Cells.at {B:Nat} {ds:List D} {wr:World} (h:Cells B ds wr) (j:Nat) (d:D) (hd:ds[j]?=some d):wr.cell? ⟨B,j,none⟩=some (val d):=by obtain ⟨hj,rfl⟩:=List.getElem?_eq_some_iff.1 hd;exact h.2 j hj
theorem zae (w:World) (ds:List D) (T:TypeId):Cells w.heap.size ds (w.alloc (Obj.cells (vals ds).toArray T)):=by
 refine ⟨by simp,fun j hj=>?_⟩
 have:(vals ds)[j]?=some (val ds[j]):=zjt ds j hj;simp[this]
theorem zcc {w:World} {b o m:Nat} {ds A R:List D} (hc:∀ j (h:j<ds.length),w.cell? ⟨b,o+j,none⟩=some (val ds[j])) (e:ds=A++R) (hl:A.length=m) (q:Nat) (d:D) (hq:R[q]?=some d):w.cell? ⟨b,o+m+q,none⟩=some (val d):=by subst e;subst hl;obtain ⟨hj,rfl⟩:=List.getElem?_eq_some_iff.1 hq;have h1:=hc (A.length+q) (by simp;omega);rw[Nat.add_assoc,h1,List.getElem_append_right (by omega)];simp
theorem zh8 {w:World} {b o m:Nat} {ds A R:List D} (hc:∀ j (h:j<ds.length),w.cell? ⟨b,o+j,none⟩=some (val ds[j])) (e:ds=A++R) (hl:A.length=m) (d:D) (hq:R[0]?=some d):w.cell? ⟨b,o+m,none⟩=some (val d):=
 zcc hc e hl 0 d hq
end Go.Proofs.YtlmhgeanknhcfaaGreatDoor.Data
namespace Go.Proofs.YtlmhgeanknhcfaaGreatDoor
namespace Data
open Go.RowKit
open Strs Tree zbv
def strs (xs:List ByteArray):List D:=xs.map D.str
theorem zi3 (xs:List ByteArray):vals (strs xs)=xs.map Value.string:=by simp[vals,strs,val,Function.comp_def]
theorem zeb (xs:List ByteArray):(strs xs).length=xs.length:=by simp[strs]
theorem zb0 (xs:List ByteArray):zaa (strs xs)=xs.map P.str:=by
 induction xs with
 | nil=>rfl
 | cons x xs ih=>rw[strs,List.map_cons,zaa];show _::zaa (strs xs)=_;rw[ih];rfl
theorem zfo (xs:List ByteArray):zah (strs xs)=[]:=by
 induction xs with
 | nil=>rfl
 | cons x xs ih=>rw[strs,List.map_cons,zah];show foot (.str x)++zah (strs xs)=_;rw[ih];rfl
theorem zl0 (xs:List ByteArray):za7 0 (xs.map P.str):=by
 induction xs with
 | nil=>exact za7.nil 0
 | cons x xs ih=>exact za7.cons 0 _ [.str x] _ rfl (zdc.cons _ _ _ _ (Fit.str x) zdc.nil) ih
theorem zex (xs:List ByteArray):weights (xs.map P.str)=lens xs:=by
 induction xs with
 | nil=>rfl
 | cons x xs ih=>rw[List.map_cons,weights,weight,lens,ih]
theorem zg7 (xs:List ByteArray):zba (xs.map P.str)=xs.length:=by
 induction xs with
 | nil=>rfl
 | cons x xs ih=>rw[List.map_cons,zba,cnt,ih,List.length_cons];omega
theorem ycc:∀ (n:Nat) (ds:List D),ds.length<=n->za7 0 (zaa ds)->∃ xs,ds=strs xs:=by
 intro n
 induction n with
 | zero=>intro ds hl _;exact ⟨[],List.eq_nil_of_length_eq_zero (Nat.le_zero.1 hl)⟩
 | succ n ih=>
  intro ds hl h;rcases zct h with rfl|⟨item,rest,rfl,h1,h2⟩
  ·exact ⟨[],rfl⟩
  ·obtain ⟨s,es,rfl,h3⟩:=za4 h1
   obtain rfl:=zbh h3;obtain ⟨xs,rfl⟩:=ih rest (by simp at hl;omega) h2;exact ⟨s::xs,rfl⟩
theorem zic {ds:List D} (h:za7 0 (zaa ds)):∃ xs,ds=strs xs:=ycc _ ds (zL _) h
theorem zm0 {w:World} {xs:List ByteArray}:zb2 w (strs xs)↔∀ x,x∈xs->x.size<=maxLen:=by
 rw[zam];constructor
 ·intro h x hx
  have:=h (.str x) (by simp[strs,hx]);rw[Good] at this;exact this
 ·intro h d hd
  simp only[strs,List.mem_map] at hd;obtain ⟨x,hx,rfl⟩:=hd;rw[Good];exact h x hx
theorem zdp {lo t:Nat} {w:World} {v:Value} {xs:List ByteArray} (h:Holds lo w (.row t 1 v (strs xs))):zbv lo w xs v:=by
 rw[Holds] at h;obtain ⟨⟨a,n,cap,rfl,-,h1,h2,h3,h4⟩,h5⟩:=h;rw[zeb,Nat.mul_one] at h1;subst h1;refine ⟨a,cap,rfl,⟨h2,h3⟩,fun x hx=>?_,fun hp=>?_⟩
 ·have:=zbo.1 h5 (.str x) (by simp[strs,hx])
  rw[Holds] at this;exact this
 ·obtain ⟨b,o,rfl,hb,hc⟩:=h4 hp
  refine ⟨b,o,rfl,hb,fun j hj=>?_⟩
  rw[hc j (by rw[zeb];exact hj)];simp[strs,val]
theorem zlk {T base:Nat} {w:World} {v:Value} {xs:List ByteArray} (h:w.ownsRow base T 1 v xs.length (xs.map Value.string)) (hx:∀ x,x∈xs->x.size<=maxLen):Row base w T 1 v (strs xs):=
 ⟨⟨xs.length,by decide,by rw[zeb,Nat.mul_one],by rw[zi3];exact h⟩,⟨zm0.2 hx,by rw[zfo];exact List.nodup_nil,fun b hb=>by rw[zfo] at hb;cases hb⟩,fun b _ hb=>by rw[zfo] at hb;cases hb⟩
theorem zjw (lo1 lo2 t1 t2:Nat) (w:World) (v1 v2:Value) (ds1 ds2:List D) (he:zaa ds1=zaa ds2) (hf:za7 0 (zaa ds1)) (h1:Holds lo1 w (.row t1 1 v1 ds1)) (h2:Holds lo2 w (.row t2 1 v2 ds2)):
  Calls Tryz.prog 33 #[v1,v2] w fun r w'=>r=.returned (.bool true)/\Below w.heap.size w w':=by
 obtain ⟨xs,rfl⟩:=zic hf;obtain ⟨ys,rfl⟩:=zic (he▸hf);rw[zb0,zb0] at he
 have:xs=ys:=by
  have inj:∀ a b:ByteArray,P.str a=P.str b->a=b:=fun a b h=>by cases h;rfl
  exact (List.map_inj_right inj).1 he
 subst this;exact zbv.z3c (zdp h1) (zdp h2)
end Data
end Go.Proofs.YtlmhgeanknhcfaaGreatDoor
namespace Go.Proofs.YtlmhgeanknhcfaaGreatDoor.Data
open Go.RowKit
open Strs
mutual
def ybz:P->Nat
 | .int _=>1
 | .str _=>1
 | .bool _=>1
 | .row _ ps=>1+zdi ps
def zdi:List P->Nat
 | []=>0
 | p::ps=>ybz p+zdi ps
end
theorem zdv (a b:List P):zdi (a++b)=zdi a+zdi b:=by
 induction a with
 | nil=>simp[zdi]
 | cons e es ih=>simp[zdi,ih];omega
def puts (w:World) (g p:Nat):List Value->World
 | []=>w
 | v::vs=>puts (w.setCell ⟨g,p,none⟩ v) g (p+1) vs
theorem zbl {base g:Nat} (hg:base<=g) (vs:List Value):∀ (w w1:World) (p:Nat),Below base w w1->Below base w (puts w1 g p vs):=by
 induction vs with
 | nil=>intro w w1 p h;exact h
 | cons v vs ih=>intro w w1 p h;exact ih _ _ _ (h.setCell hg _)
theorem Own.zyw {base:Nat} {w:World} {ds:List D} (h:Own base w ds) {g:Nat} (hg:g<base) (o:Nat) (v:Value):Own base (w.setCell ⟨g,o,none⟩ v) ds:=
 h.frame fun b hb=>Below.heap_setCell _ _ _ _ (fun e=>by have:=h.lo b hb;have:b=g:=e;omega)
theorem Own.zno {base:Nat} {ds:List D} {g:Nat} (hg:g<base) (vs:List Value):∀ (w:World) (p:Nat),Own base w ds->Own base (puts w g p vs) ds:=by
 induction vs with
 | nil=>intro w p h;exact h
 | cons v vs ih=>intro w p h;exact ih _ _ (h.zyw hg _ _)
def ydo (w:World) (t k n:Nat) (ds:List D) (i:Nat) (wr:World):Prop:=
 w.heap.size<wr.heap.size/\Below w.heap.size w wr/\∃ (xs:List Value) (es:List D),xs.length=n*k/\wr.ownsRow w.heap.size t k (.slice (some ⟨w.heap.size,0,none⟩) n n) n xs /\
  es.length=i*k/\(∀ j (h:j<es.length),xs[j]?=some (val es[j]))/\zaa es=(zaa ds).take (i*k)/\Own (w.heap.size+1) wr es
theorem ydo.cell {w wr w2:World} {t k n i:Nat} {ds:List D} (h:ydo w t k n ds i wr) (hb:Below wr.heap.size wr w2) (hlt:i<n) (r:Nat) (hr:r<k):∃ v,w2.cell? ⟨w.heap.size,i*k+r,none⟩=some v:=by obtain ⟨hg,hbw,xs,fs,hxl,how,hfl,hfx,hfe,hfo⟩:=h;have hik:(i+1)*k<=n*k:=Nat.mul_le_mul_right k (by omega);rw[Nat.succ_mul] at hik;rw[(own_keep how hb).cellAt _ (by omega)];exact ⟨_,List.getElem?_eq_getElem (by omega)⟩
structure Box (w:World) (ds zs os:List D) (wr:World):Prop where
 below:Below w.heap.size w wr
 size:w.heap.size+3<=wr.heap.size
 a:Cells w.heap.size ds wr
 b:Cells (w.heap.size+1) zs wr
 c:Cells (w.heap.size+1+1) os wr
 fb:∀ o,wr.frozen? ⟨w.heap.size+1,o,none⟩=false
 fc:∀ o,wr.frozen? ⟨w.heap.size+1+1,o,none⟩=false
theorem zb5 {B g o:Nat} {ds:List D} {wr:World} (h:Cells B ds wr) (v:Value) (hg:B≠g):Cells B ds (wr.setCell ⟨g,o,none⟩ v):=
 ⟨by simpa using h.1,fun j hj=>(World.cell?_setCell_other _ _ _ _ (by intro e;injection e with e1;exact hg e1.symm)).trans (h.2 j hj)⟩
theorem Cells.set {B:Nat} {ds:List D} {wr:World} (h:Cells B ds wr) (j:Nat) (d:D) (hj:j<ds.length) (hf:wr.frozen? ⟨B,j,none⟩=false):Cells B (ds.set j d) (wr.setCell ⟨B,j,none⟩ (val d)):=by
 refine ⟨by simpa using h.1,fun q hq=>?_⟩
 have hq':q<ds.length:=by simpa using hq
 by_cases e:q=j
 ·subst e
  have:=h.2 q hq';rw[List.getElem_set_self]
  go_simp
 ·rw[List.getElem_set_ne (by omega)]
  exact (World.cell?_setCell_other _ _ _ _ (by intro e2;injection e2 with _ e3;omega)).trans (h.2 q hq')
theorem Box.set {w wr:World} {ds zs os:List D} (h:Box w ds zs os wr) (j:Nat) (d:D) (hj:j<os.length):Box w ds zs (os.set j d) (wr.setCell ⟨w.heap.size+1+1,j,none⟩ (val d)):=
 ⟨h.below.setCell (by show w.heap.size<=w.heap.size+1+1;omega) _,by simpa using h.size,zb5 h.a _ (by omega),zb5 h.b _ (by omega),h.c.set j d hj (h.fc j),
  fun o=>by have:=h.fb o;go_simp,fun o=>by have:=h.fc o;go_simp⟩
theorem zbd {w:World} {t k:Nat} {v:Value} {ds:List D} (h:Good w (.row t k v ds)):∃ a n c,v=.slice a n c:=by
 rw[Good] at h;obtain ⟨⟨n,-,-,ho⟩,-⟩:=h;obtain ⟨_,⟨rfl,hn⟩|⟨g,cap,cur,rfl,_⟩⟩:=ho
 ·exact ⟨none,0,0,rfl⟩
 ·exact ⟨_,_,_,rfl⟩
end Go.Proofs.YtlmhgeanknhcfaaGreatDoor.Data
namespace Go.Proofs.YtlmhgeanknhcfaaGreatDoor
namespace Data
open Go.RowKit
open Strs Tree zbv
theorem z05 (NN:Nat) (KR:∀ (lo1 lo2 t1 t2:Nat) (w:World) (v1 v2:Value) (ds es:List D),zdi (zaa ds)<NN->zaa ds=zaa es->za7 2 (zaa ds)->Holds lo1 w (.row t1 5 v1 ds)->Holds lo2 w (.row t2 5 v2 es)->Calls Tryz.prog 34 #[v1,v2] w fun r w'=>r=.returned (.bool true)/\Below w.heap.size w w') (lo1 lo2:Nat) (w:World) (ds es:List D) (hm:zdi (zaa ds)<=NN) (he:zaa ds=zaa es) (hf:zdc (env 2) (zaa ds)) (hh:zat lo1 w ds) (hk:zat lo2 w es):
  Calls Tryz.prog 9 #[agg ds,agg es] w fun r w'=>r=.returned (.bool true)/\Below w.heap.size w w':=by
 have hg:zdc (env 2) (zaa es):=he▸hf;obtain ⟨n0,e0,rfl,hf_0⟩:=zd8 hf;clear hf;obtain ⟨s1,e1,rfl,hf_1⟩:=za4 hf_0;clear hf_0;obtain ⟨n2,e2,rfl,hf_2⟩:=zd8 hf_1;clear hf_1;obtain ⟨t3,v3,d3,e3,rfl,f3,hf_3⟩:=zak (k:=1) rfl hf_2;clear hf_2;obtain ⟨t4,v4,d4,e4,rfl,f4,hf_4⟩:=zak (k:=5) rfl hf_3;clear hf_3;obtain rfl:=zbh hf_4;clear hf_4;obtain ⟨yn0,ye0,rfl,hg_0⟩:=zd8 hg
 clear hg;obtain ⟨ys1,ye1,rfl,hg_1⟩:=za4 hg_0;clear hg_0;obtain ⟨yn2,ye2,rfl,hg_2⟩:=zd8 hg_1;clear hg_1;obtain ⟨yt3,yv3,yd3,ye3,rfl,yf3,hg_3⟩:=zak (k:=1) rfl hg_2;clear hg_2;obtain ⟨yt4,yv4,yd4,ye4,rfl,yf4,hg_4⟩:=zak (k:=5) rfl hg_3;clear hg_3;obtain rfl:=zbh hg_4;clear hg_4;simp only[zaa,erase,List.cons.injEq,P.int.injEq,P.str.injEq,P.row.injEq,true_and,  and_true] at he
 obtain ⟨g0,g1,g2,g3,g4⟩:=he;subst g0;subst g1;subst g2;simp only[zaa,erase,zdi,ybz] at hm;simp only[zat,and_true] at hh;obtain ⟨h0,h1,h2,h3,h4⟩:=hh;simp only[zat,and_true] at hk;obtain ⟨k0,k1,k2,k3,k4⟩:=hk;have K3:=fun (w':World) (hb:Below w.heap.size w w')=>zH (zjw lo1 lo2 t3 yt3 w' v3 yv3 d3 yd3 g3 f3 (h3.below hb) (k3.below hb))
 have K4:=fun (w':World) (hb:Below w.heap.size w w')=>zH (KR lo1 lo2 t4 yt4 w' v4 yv4 d4 yd4 (by omega) g4 f4 (h4.below hb) (k4.below hb))
 clear h0 k0;clear h1 k1;clear h2 k2;clear h3 k3 f3 yf3 g3;clear h4 k4 f4 yf4 g4;clear KR hm;have B0:Hid (Below w.heap.size w ((w.alloc (Obj.cells #[Value.int .i64 n0,Value.string s1,Value.int .i64 n2,v3,v4] 25)).alloc (Obj.cells #[Value.int .i64 n0,Value.string s1,Value.int .i64 n2,yv3,yv4] 25))):=zH (((zB _ _).alloc (zL _) _).alloc (by simp) _);have X0:Hid (Cells w.heap.size [D.int n0,D.str s1,D.int n2,D.row t3 1 v3 d3,D.row t4 5 v4 d4] ((w.alloc (Obj.cells #[Value.int .i64 n0,Value.string s1,Value.int .i64 n2,v3,v4] 25)).alloc (Obj.cells #[Value.int .i64 n0,Value.string s1,Value.int .i64 n2,yv3,yv4] 25))):=zH ((zae w [D.int n0,D.str s1,D.int n2,D.row t3 1 v3 d3,D.row t4 5 v4 d4] _).step ((zB _ _).alloc (zL _) _))
 have Y0:Hid (Cells (w.heap.size+1) [D.int n0,D.str s1,D.int n2,D.row yt3 1 yv3 yd3,D.row yt4 5 yv4 yd4] ((w.alloc (Obj.cells #[Value.int .i64 n0,Value.string s1,Value.int .i64 n2,v3,v4] 25)).alloc (Obj.cells #[Value.int .i64 n0,Value.string s1,Value.int .i64 n2,yv3,yv4] 25))):=zH (by have h:=zae (w.alloc (Obj.cells #[Value.int .i64 n0,Value.string s1,Value.int .i64 n2,v3,v4] 25)) [D.int n0,D.str s1,D.int n2,D.row yt3 1 yv3 yd3,D.row yt4 5 yv4 yd4] 25;rw[show (w.alloc (Obj.cells #[Value.int .i64 n0,Value.string s1,Value.int .i64 n2,v3,v4] 25)).heap.size=w.heap.size+1 by simp] at h;exact h)
 rw[show agg [D.int n0,D.str s1,D.int n2,D.row t3 1 v3 d3,D.row t4 5 v4 d4]=Value.agg #[Value.int .i64 n0,Value.string s1,Value.int .i64 n2,v3,v4] from rfl,show agg [D.int n0,D.str s1,D.int n2,D.row yt3 1 yv3 yd3,D.row yt4 5 yv4 yd4]=Value.agg #[Value.int .i64 n0,Value.string s1,Value.int .i64 n2,yv3,yv4] from rfl]
 go_enter Tryz.func9,Tryz.ntmps9;have a3:=X0.out.at 3 (D.row t3 1 v3 d3) rfl;have b3:=Y0.out.at 3 (D.row yt3 1 yv3 yd3) rfl;simp only[val] at a3 b3;go_wp2_with fail
 refine (K3 _ B0.out).out.mono ?_;rintro e w1 ⟨rfl,hb1⟩;have B1:=zH (B0.out.trans (hb1.mono B0.out.size));have X1:=zH (X0.out.step hb1);have Y1:=zH (Y0.out.step hb1);clear hb1 K3 B0 X0 Y0 a3 b3;have a4:=X1.out.at 4 (D.row t4 5 v4 d4) rfl;have b4:=Y1.out.at 4 (D.row yt4 5 yv4 yd4) rfl;simp only[val] at a4 b4;go_wp2_with fail
 refine (K4 _ B1.out).out.mono ?_;rintro e w2 ⟨rfl,hb2⟩;have B2:=zH (B1.out.trans (hb2.mono B1.out.size));have X2:=zH (X1.out.step hb2);have Y2:=zH (Y1.out.step hb2);clear hb2 K4 B1 X1 Y1 a4 b4;go_wp2_with fail
 go_ret;exact ⟨rfl,B2.out⟩
theorem zxa (NN:Nat) (KT:∀ (lo1 lo2:Nat) (w:World) (ds es:List D),zdi (zaa ds)<=NN->zaa ds=zaa es->zdc (env 2) (zaa ds)->zat lo1 w ds->zat lo2 w es->Calls Tryz.prog 9 #[agg ds,agg es] w fun r w'=>r=.returned (.bool true)/\Below w.heap.size w w') (lo1 lo2 t1 t2:Nat) (w:World) (v1 v2:Value) (ds es:List D) (hm:zdi (zaa ds)<=NN) (he:zaa ds=zaa es) (hf:za7 2 (zaa ds)) (hh:Holds lo1 w (.row t1 5 v1 ds)) (hk:Holds lo2 w (.row t2 5 v2 es)):
  Calls Tryz.prog 34 #[v1,v2] w fun r w'=>r=.returned (.bool true)/\Below w.heap.size w w':=by
 rw[Holds] at hh hk;obtain ⟨⟨a1,n,cap1,rfl,-,hn,hnc1,hcm1,hc1⟩,hds⟩:=hh;obtain ⟨⟨a2,n2,cap2,rfl,-,hn2,hnc2,hcm2,hc2⟩,hes⟩:=hk;unfold maxLen at hcm1 hcm2;have hl:=congrArg List.length he;rw[za0,za0] at hl;have hnn:n2=n:=by omega
 subst hnn;have HN:=zH hn;have HN2:=zH hn2;have HF:=zH hf;have HE:=zH he;have HDS:=zH hds;have HES:=zH hes;clear hn hn2 hf he hl hds hes;by_cases hp:0<n2
 rotate_left
 ·have hn0:n2=0:=by omega
  subst hn0;clear hc1 hc2 HN HN2 HF HE HDS HES KT hm;go_enter Tryz.func34,Tryz.ntmps34;go_wp2_with fail
  refine wp_loop_rounds 1 ?_;rw[rounds_succ];go_wp2_with fail
  go_ret;exact ⟨rfl,zB _ _⟩
 obtain ⟨bk1,o1,rfl,hp1,hc1⟩:=hc1 hp;obtain ⟨bk2,o2,rfl,hp2,hc2⟩:=hc2 hp;have HC1:=zH hc1;have HC2:=zH hc2;clear hc1 hc2 hp1 hp2;go_enter Tryz.func34,Tryz.ntmps34;go_wp2_with fail
 go_loopw [5] (fun j wr=>∃ (i:Nat) (A R A' R':List D),ds=A++R/\es=A'++R'/\A.length=i*5/\A'.length=i*5/\za7 2 (zaa R)/\zaa R=zaa R'/\j=.int .i64 i/\Below w.heap.size w wr) (fun j _=>n2-(intOf j).toNat)
 case atStart=>exact ⟨0,[],ds,[],es,rfl,rfl,by simp,by simp,HF.out,HE.out,rfl,zB _ _⟩
 case round=>
  obtain ⟨i,A,R,A',R',hds,hes,hal,hal',hfr,her,rfl,hbw⟩:=hrel;have HD:=zH hds;have HD':=zH hes;have HAL:=zH hal;have HAL':=zH hal';clear hds hes hal hal';rcases zct hfr with rfl|⟨item,rest,rfl,hfi,hfrest⟩
  ·have hin:i=n2:=by
    have h1:=HN.out;rw[HD.out,List.append_nil,HAL.out] at h1;omega
   subst hin;clear hfr her;go_wp2_with fail
   go_ret;exact ⟨rfl,hbw⟩
  have hil:item.length=5:=by have:=zfe hfi;rw[za0] at this;exact this
  have hlt:i<n2:=by have h1:=HN.out;rw[HD.out,List.length_append,List.length_append,HAL.out,hil] at h1;omega
  rw[zao] at her;obtain ⟨item',rest',rfl,hei,her'⟩:=zek her.symm;have hfi':zdc (env 2) (zaa item'):=hei.symm▸hfi;have HFI:=zH hfi;have HFR:=zH hfrest;have HER:=zH her'.symm;have he:=hei.symm;have HEI:=zH he;clear hil hfr her hfrest her' hei;obtain ⟨n0,e0,rfl,hfi_0⟩:=zd8 hfi;clear hfi;obtain ⟨s1,e1,rfl,hfi_1⟩:=za4 hfi_0;clear hfi_0;obtain ⟨n2,e2,rfl,hfi_2⟩:=zd8 hfi_1
  clear hfi_1;obtain ⟨t3,v3,d3,e3,rfl,f3,hfi_3⟩:=zak (k:=1) rfl hfi_2;clear hfi_2;obtain ⟨t4,v4,d4,e4,rfl,f4,hfi_4⟩:=zak (k:=5) rfl hfi_3;clear hfi_3;obtain rfl:=zbh hfi_4;clear hfi_4;obtain ⟨yn0,ye0,rfl,hfi'_0⟩:=zd8 hfi';clear hfi';obtain ⟨ys1,ye1,rfl,hfi'_1⟩:=za4 hfi'_0;clear hfi'_0;obtain ⟨yn2,ye2,rfl,hfi'_2⟩:=zd8 hfi'_1;clear hfi'_1;obtain ⟨yt3,yv3,yd3,ye3,rfl,yf3,hfi'_3⟩:=zak (k:=1) rfl hfi'_2
  clear hfi'_2;obtain ⟨yt4,yv4,yd4,ye4,rfl,yf4,hfi'_4⟩:=zak (k:=5) rfl hfi'_3;clear hfi'_3;obtain rfl:=zbh hfi'_4;clear hfi'_4;simp only[zaa,erase,List.cons.injEq,P.int.injEq,P.str.injEq,P.row.injEq,true_and,  and_true] at he;obtain ⟨g0,g1,g2,g3,g4⟩:=he;subst g0;subst g1;subst g2;have p0:=cell_keep hbw (zh8 HC1.out HD.out HAL.out (D.int n0) rfl);have q0:=cell_keep hbw (zh8 HC2.out HD'.out HAL'.out (D.int n0) rfl)
  simp only[val] at p0 q0;have p1:=cell_keep hbw (zcc HC1.out HD.out HAL.out 1 (D.str s1) rfl);have q1:=cell_keep hbw (zcc HC2.out HD'.out HAL'.out 1 (D.str s1) rfl);simp only[val] at p1 q1;have p2:=cell_keep hbw (zcc HC1.out HD.out HAL.out 2 (D.int n2) rfl);have q2:=cell_keep hbw (zcc HC2.out HD'.out HAL'.out 2 (D.int n2) rfl);simp only[val] at p2 q2;have p3:=cell_keep hbw (zcc HC1.out HD.out HAL.out 3 (D.row t3 1 v3 d3) rfl)
  have q3:=cell_keep hbw (zcc HC2.out HD'.out HAL'.out 3 (D.row yt3 1 yv3 yd3) rfl);simp only[val] at p3 q3;have p4:=cell_keep hbw (zcc HC1.out HD.out HAL.out 4 (D.row t4 5 v4 d4) rfl);have q4:=cell_keep hbw (zcc HC2.out HD'.out HAL'.out 4 (D.row yt4 5 yv4 yd4) rfl);simp only[val] at p4 q4;have hit:zat lo1 w [D.int n0,D.str s1,D.int n2,D.row t3 1 v3 d3,D.row t4 5 v4 d4]:=(zat.append.1 ((zat.append.1 (HD.out▸HDS.out)).2)).1
  have hit':zat lo2 w [D.int n0,D.str s1,D.int n2,D.row yt3 1 yv3 yd3,D.row yt4 5 yv4 yd4]:=(zat.append.1 ((zat.append.1 (HD'.out▸HES.out)).2)).1;have KI:=fun (w':World) (hb:Below w.heap.size w w')=>zH (KT lo1 lo2 w' [D.int n0,D.str s1,D.int n2,D.row t3 1 v3 d3,D.row t4 5 v4 d4] [D.int n0,D.str s1,D.int n2,D.row yt3 1 yv3 yd3,D.row yt4 5 yv4 yd4] (by have h1:=hm;rw[HD.out,zao,zao,zdv,zdv] at h1;omega) HEI.out HFI.out (hit.below hb) (hit'.below hb))
  have HD2:Hid (ds=(A++[D.int n0,D.str s1,D.int n2,D.row t3 1 v3 d3,D.row t4 5 v4 d4])++rest):=zH (by rw[HD.out,List.append_assoc]);have HE2:Hid (es=(A'++[D.int n0,D.str s1,D.int n2,D.row yt3 1 yv3 yd3,D.row yt4 5 yv4 yd4])++rest'):=zH (by rw[HD'.out,List.append_assoc]);have HAL2:Hid ((A++[D.int n0,D.str s1,D.int n2,D.row t3 1 v3 d3,D.row t4 5 v4 d4]).length=(i+1)*5):=zH (by rw[List.length_append,HAL.out,Nat.succ_mul];rfl)
  have HAL3:Hid ((A'++[D.int n0,D.str s1,D.int n2,D.row yt3 1 yv3 yd3,D.row yt4 5 yv4 yd4]).length=(i+1)*5):=zH (by rw[List.length_append,HAL'.out,Nat.succ_mul];rfl);have HB:=zH hbw;clear hit hit' hbw HFI HEI HD HD' HAL HAL' f3 yf3 g3 f4 yf4 g4;simp only[agg,vals,List.map,val] at KI;go_wp2_with fail
  go_region_held3 (fun w'=>w'.cell? ⟨bk1,o1+i*5,none⟩=some (Value.int .i64 n0)/\w'.cell? ⟨bk1,o1+i*5+1,none⟩=some (Value.string s1)/\w'.cell? ⟨bk1,o1+i*5+2,none⟩=some (Value.int .i64 n2)/\w'.cell? ⟨bk1,o1+i*5+3,none⟩=some v3/\w'.cell? ⟨bk1,o1+i*5+4,none⟩=some v4/\w'.cell? ⟨bk2,o2+i*5,none⟩=some (Value.int .i64 n0)/\w'.cell? ⟨bk2,o2+i*5+1,none⟩=some (Value.string s1)/\w'.cell? ⟨bk2,o2+i*5+2,none⟩=some (Value.int .i64 n2)/\w'.cell? ⟨bk2,o2+i*5+3,none⟩=some yv3/\w'.cell? ⟨bk2,o2+i*5+4,none⟩=some yv4)
   (first|exact ⟨p0,p1,p2,p3,p4,q0,q1,q2,q3,q4⟩|exact ⟨cell_keep hb1 (show wr.drew.cell? _=_ from p0),cell_keep hb1 (show wr.drew.cell? _=_ from p1),cell_keep hb1 (show wr.drew.cell? _=_ from p2),cell_keep hb1 (show wr.drew.cell? _=_ from p3),cell_keep hb1 (show wr.drew.cell? _=_ from p4),cell_keep hb1 (show wr.drew.cell? _=_ from q0),cell_keep hb1 (show wr.drew.cell? _=_ from q1),cell_keep hb1 (show wr.drew.cell? _=_ from q2),cell_keep hb1 (show wr.drew.cell? _=_ from q3),cell_keep hb1 (show wr.drew.cell? _=_ from q4)⟩|go_keep)
   (first|(go_at_call 9;refine (KI _ HB.out.drew).out.mono ?_;rintro e w1 ⟨rfl,hb1⟩))
  all_goals go_wp2_with fail
  go_roundw
  case rel=>exact ⟨i+1,A++[D.int n0,D.str s1,D.int n2,D.row t3 1 v3 d3,D.row t4 5 v4 d4],rest,A'++[D.int n0,D.str s1,D.int n2,D.row yt3 1 yv3 yd3,D.row yt4 5 yv4 yd4],rest',HD2.out,HE2.out,HAL2.out,HAL3.out,HFR.out,HER.out,by go_num,HB.out.drew.trans (hb1.mono HB.out.size)⟩
  case measure=>simp[intOf];omega
theorem ztv (NN:Nat):∀ (lo1 lo2 t1 t2:Nat) (w:World) (v1 v2:Value) (ds es:List D),zdi (zaa ds)<NN->zaa ds=zaa es->za7 2 (zaa ds)->Holds lo1 w (.row t1 5 v1 ds)->Holds lo2 w (.row t2 5 v2 es)->Calls Tryz.prog 34 #[v1,v2] w fun r w'=>r=.returned (.bool true)/\Below w.heap.size w w':=by
 induction NN with
 | zero=>intro _ _ _ _ _ _ _ _ _ h;omega
 | succ NN ih=>intro lo1 lo2 t1 t2 w v1 v2 ds es hm he hf hh hk;exact zxa NN (fun lo1 lo2 w ds es hm he hf hh hk=>z05 NN ih lo1 lo2 w ds es hm he hf hh hk) lo1 lo2 t1 t2 w v1 v2 ds es (by omega) he hf hh hk
theorem z8n (lo1 lo2 t1 t2:Nat) (w:World) (v1 v2:Value) (ds es:List D) (he:zaa ds=zaa es) (hf:za7 2 (zaa ds)) (hh:Holds lo1 w (.row t1 5 v1 ds)) (hk:Holds lo2 w (.row t2 5 v2 es)):
  Calls Tryz.prog 34 #[v1,v2] w fun r w'=>r=.returned (.bool true)/\Below w.heap.size w w':=ztv _ lo1 lo2 t1 t2 w v1 v2 ds es (Nat.lt_succ_self _) he hf hh hk
end Data
namespace Data
open Go.RowKit
open Strs Tree zbv
theorem zl4 (lo1 lo2:Nat) (w:World) (ds es:List D) (he:zaa ds=zaa es) (hf:zdc (env 3) (zaa ds)) (hh:zat lo1 w ds) (hk:zat lo2 w es):
  Calls Tryz.prog 19 #[agg ds,agg es] w fun r w'=>r=.returned (.bool true)/\Below w.heap.size w w':=by
 have hg:zdc (env 3) (zaa es):=he▸hf;obtain ⟨s0,e0,rfl,hf_0⟩:=za4 hf;clear hf;obtain ⟨x1,e1,rfl,hf_1⟩:=zcf hf_0;clear hf_0;obtain ⟨t2,v2,d2,e2,rfl,f2,hf_2⟩:=zak (k:=1) rfl hf_1;clear hf_1;obtain ⟨t3,v3,d3,e3,rfl,f3,hf_3⟩:=zak (k:=1) rfl hf_2;clear hf_2;obtain ⟨t4,v4,d4,e4,rfl,f4,hf_4⟩:=zak (k:=5) rfl hf_3;clear hf_3;obtain rfl:=zbh hf_4;clear hf_4;obtain ⟨ys0,ye0,rfl,hg_0⟩:=za4 hg
 clear hg;obtain ⟨yx1,ye1,rfl,hg_1⟩:=zcf hg_0;clear hg_0;obtain ⟨yt2,yv2,yd2,ye2,rfl,yf2,hg_2⟩:=zak (k:=1) rfl hg_1;clear hg_1;obtain ⟨yt3,yv3,yd3,ye3,rfl,yf3,hg_3⟩:=zak (k:=1) rfl hg_2;clear hg_2;obtain ⟨yt4,yv4,yd4,ye4,rfl,yf4,hg_4⟩:=zak (k:=5) rfl hg_3;clear hg_3;obtain rfl:=zbh hg_4;clear hg_4;simp only[zaa,erase,List.cons.injEq,P.str.injEq,P.bool.injEq,P.row.injEq,true_and,  and_true] at he
 obtain ⟨g0,g1,g2,g3,g4⟩:=he;subst g0;subst g1;simp only[zat,and_true] at hh;obtain ⟨h0,h1,h2,h3,h4⟩:=hh;simp only[zat,and_true] at hk;obtain ⟨k0,k1,k2,k3,k4⟩:=hk;have K2:=fun (w':World) (hb:Below w.heap.size w w')=>zH (zjw lo1 lo2 t2 yt2 w' v2 yv2 d2 yd2 g2 f2 (h2.below hb) (k2.below hb))
 have K3:=fun (w':World) (hb:Below w.heap.size w w')=>zH (zjw lo1 lo2 t3 yt3 w' v3 yv3 d3 yd3 g3 f3 (h3.below hb) (k3.below hb))
 have K4:=fun (w':World) (hb:Below w.heap.size w w')=>zH (z8n lo1 lo2 t4 yt4 w' v4 yv4 d4 yd4 g4 f4 (h4.below hb) (k4.below hb))
 clear h0 k0;clear h1 k1;clear h2 k2 f2 yf2 g2;clear h3 k3 f3 yf3 g3;clear h4 k4 f4 yf4 g4;have B0:Hid (Below w.heap.size w ((w.alloc (Obj.cells #[Value.string s0,Value.bool x1,v2,v3,v4] 41)).alloc (Obj.cells #[Value.string s0,Value.bool x1,yv2,yv3,yv4] 41))):=zH (((zB _ _).alloc (zL _) _).alloc (by simp) _);have X0:Hid (Cells w.heap.size [D.str s0,D.bool x1,D.row t2 1 v2 d2,D.row t3 1 v3 d3,D.row t4 5 v4 d4] ((w.alloc (Obj.cells #[Value.string s0,Value.bool x1,v2,v3,v4] 41)).alloc (Obj.cells #[Value.string s0,Value.bool x1,yv2,yv3,yv4] 41))):=zH ((zae w [D.str s0,D.bool x1,D.row t2 1 v2 d2,D.row t3 1 v3 d3,D.row t4 5 v4 d4] _).step ((zB _ _).alloc (zL _) _))
 have Y0:Hid (Cells (w.heap.size+1) [D.str s0,D.bool x1,D.row yt2 1 yv2 yd2,D.row yt3 1 yv3 yd3,D.row yt4 5 yv4 yd4] ((w.alloc (Obj.cells #[Value.string s0,Value.bool x1,v2,v3,v4] 41)).alloc (Obj.cells #[Value.string s0,Value.bool x1,yv2,yv3,yv4] 41))):=zH (by have h:=zae (w.alloc (Obj.cells #[Value.string s0,Value.bool x1,v2,v3,v4] 41)) [D.str s0,D.bool x1,D.row yt2 1 yv2 yd2,D.row yt3 1 yv3 yd3,D.row yt4 5 yv4 yd4] 41;rw[show (w.alloc (Obj.cells #[Value.string s0,Value.bool x1,v2,v3,v4] 41)).heap.size=w.heap.size+1 by simp] at h;exact h)
 rw[show agg [D.str s0,D.bool x1,D.row t2 1 v2 d2,D.row t3 1 v3 d3,D.row t4 5 v4 d4]=Value.agg #[Value.string s0,Value.bool x1,v2,v3,v4] from rfl,show agg [D.str s0,D.bool x1,D.row yt2 1 yv2 yd2,D.row yt3 1 yv3 yd3,D.row yt4 5 yv4 yd4]=Value.agg #[Value.string s0,Value.bool x1,yv2,yv3,yv4] from rfl]
 go_enter Tryz.func19,Tryz.ntmps19;have a2:=X0.out.at 2 (D.row t2 1 v2 d2) rfl;have b2:=Y0.out.at 2 (D.row yt2 1 yv2 yd2) rfl;simp only[val] at a2 b2;go_wp2_with fail
 refine (K2 _ B0.out).out.mono ?_;rintro e w1 ⟨rfl,hb1⟩;have B1:=zH (B0.out.trans (hb1.mono B0.out.size));have X1:=zH (X0.out.step hb1);have Y1:=zH (Y0.out.step hb1);clear hb1 K2 B0 X0 Y0 a2 b2;have a3:=X1.out.at 3 (D.row t3 1 v3 d3) rfl;have b3:=Y1.out.at 3 (D.row yt3 1 yv3 yd3) rfl;simp only[val] at a3 b3;go_wp2_with fail
 refine (K3 _ B1.out).out.mono ?_;rintro e w2 ⟨rfl,hb2⟩;have B2:=zH (B1.out.trans (hb2.mono B1.out.size));have X2:=zH (X1.out.step hb2);have Y2:=zH (Y1.out.step hb2);clear hb2 K3 B1 X1 Y1 a3 b3;have a4:=X2.out.at 4 (D.row t4 5 v4 d4) rfl;have b4:=Y2.out.at 4 (D.row yt4 5 yv4 yd4) rfl;simp only[val] at a4 b4;go_wp2_with fail
 refine (K4 _ B2.out).out.mono ?_;rintro e w3 ⟨rfl,hb3⟩;have B3:=zH (B2.out.trans (hb3.mono B2.out.size));have X3:=zH (X2.out.step hb3);have Y3:=zH (Y2.out.step hb3);clear hb3 K4 B2 X2 Y2 a4 b4;go_wp2_with fail
 go_ret;exact ⟨rfl,B3.out⟩
theorem zzy (lo1 lo2 t1 t2:Nat) (w:World) (v1 v2:Value) (ds es:List D) (he:zaa ds=zaa es) (hf:za7 3 (zaa ds)) (hh:Holds lo1 w (.row t1 5 v1 ds)) (hk:Holds lo2 w (.row t2 5 v2 es)):
  Calls Tryz.prog 141 #[v1,v2] w fun r w'=>r=.returned (.bool true)/\Below w.heap.size w w':=by
 rw[Holds] at hh hk;obtain ⟨⟨a1,n,cap1,rfl,-,hn,hnc1,hcm1,hc1⟩,hds⟩:=hh;obtain ⟨⟨a2,n2,cap2,rfl,-,hn2,hnc2,hcm2,hc2⟩,hes⟩:=hk;unfold maxLen at hcm1 hcm2;have hl:=congrArg List.length he;rw[za0,za0] at hl;have hnn:n2=n:=by omega
 subst hnn;have HN:=zH hn;have HN2:=zH hn2;have HF:=zH hf;have HE:=zH he;have HDS:=zH hds;have HES:=zH hes;clear hn hn2 hf he hl hds hes;by_cases hp:0<n2
 rotate_left
 ·have hn0:n2=0:=by omega
  subst hn0;clear hc1 hc2 HN HN2 HF HE HDS HES;go_enter Tryz.func141,Tryz.ntmps141;go_wp2_with fail
  refine wp_loop_rounds 1 ?_;rw[rounds_succ];go_wp2_with fail
  go_ret;exact ⟨rfl,zB _ _⟩
 obtain ⟨bk1,o1,rfl,hp1,hc1⟩:=hc1 hp;obtain ⟨bk2,o2,rfl,hp2,hc2⟩:=hc2 hp;have HC1:=zH hc1;have HC2:=zH hc2;clear hc1 hc2 hp1 hp2;go_enter Tryz.func141,Tryz.ntmps141;go_wp2_with fail
 go_loopw [5] (fun j wr=>∃ (i:Nat) (A R A' R':List D),ds=A++R/\es=A'++R'/\A.length=i*5/\A'.length=i*5/\za7 3 (zaa R)/\zaa R=zaa R'/\j=.int .i64 i/\Below w.heap.size w wr) (fun j _=>n2-(intOf j).toNat)
 case atStart=>exact ⟨0,[],ds,[],es,rfl,rfl,by simp,by simp,HF.out,HE.out,rfl,zB _ _⟩
 case round=>
  obtain ⟨i,A,R,A',R',hds,hes,hal,hal',hfr,her,rfl,hbw⟩:=hrel;have HD:=zH hds;have HD':=zH hes;have HAL:=zH hal;have HAL':=zH hal';clear hds hes hal hal';rcases zct hfr with rfl|⟨item,rest,rfl,hfi,hfrest⟩
  ·have hin:i=n2:=by
    have h1:=HN.out;rw[HD.out,List.append_nil,HAL.out] at h1;omega
   subst hin;clear hfr her;go_wp2_with fail
   go_ret;exact ⟨rfl,hbw⟩
  have hil:item.length=5:=by have:=zfe hfi;rw[za0] at this;exact this
  have hlt:i<n2:=by have h1:=HN.out;rw[HD.out,List.length_append,List.length_append,HAL.out,hil] at h1;omega
  rw[zao] at her;obtain ⟨item',rest',rfl,hei,her'⟩:=zek her.symm;have hfi':zdc (env 3) (zaa item'):=hei.symm▸hfi;have HFI:=zH hfi;have HFR:=zH hfrest;have HER:=zH her'.symm;have he:=hei.symm;have HEI:=zH he;clear hil hfr her hfrest her' hei;obtain ⟨s0,e0,rfl,hfi_0⟩:=za4 hfi;clear hfi;obtain ⟨x1,e1,rfl,hfi_1⟩:=zcf hfi_0;clear hfi_0;obtain ⟨t2,v2,d2,e2,rfl,f2,hfi_2⟩:=zak (k:=1) rfl hfi_1
  clear hfi_1;obtain ⟨t3,v3,d3,e3,rfl,f3,hfi_3⟩:=zak (k:=1) rfl hfi_2;clear hfi_2;obtain ⟨t4,v4,d4,e4,rfl,f4,hfi_4⟩:=zak (k:=5) rfl hfi_3;clear hfi_3;obtain rfl:=zbh hfi_4;clear hfi_4;obtain ⟨ys0,ye0,rfl,hfi'_0⟩:=za4 hfi';clear hfi';obtain ⟨yx1,ye1,rfl,hfi'_1⟩:=zcf hfi'_0;clear hfi'_0;obtain ⟨yt2,yv2,yd2,ye2,rfl,yf2,hfi'_2⟩:=zak (k:=1) rfl hfi'_1;clear hfi'_1;obtain ⟨yt3,yv3,yd3,ye3,rfl,yf3,hfi'_3⟩:=zak (k:=1) rfl hfi'_2
  clear hfi'_2;obtain ⟨yt4,yv4,yd4,ye4,rfl,yf4,hfi'_4⟩:=zak (k:=5) rfl hfi'_3;clear hfi'_3;obtain rfl:=zbh hfi'_4;clear hfi'_4;simp only[zaa,erase,List.cons.injEq,P.str.injEq,P.bool.injEq,P.row.injEq,true_and,  and_true] at he;obtain ⟨g0,g1,g2,g3,g4⟩:=he;subst g0;subst g1;have p0:=cell_keep hbw (zh8 HC1.out HD.out HAL.out (D.str s0) rfl);have q0:=cell_keep hbw (zh8 HC2.out HD'.out HAL'.out (D.str s0) rfl)
  simp only[val] at p0 q0;have p1:=cell_keep hbw (zcc HC1.out HD.out HAL.out 1 (D.bool x1) rfl);have q1:=cell_keep hbw (zcc HC2.out HD'.out HAL'.out 1 (D.bool x1) rfl);simp only[val] at p1 q1;have p2:=cell_keep hbw (zcc HC1.out HD.out HAL.out 2 (D.row t2 1 v2 d2) rfl);have q2:=cell_keep hbw (zcc HC2.out HD'.out HAL'.out 2 (D.row yt2 1 yv2 yd2) rfl);simp only[val] at p2 q2;have p3:=cell_keep hbw (zcc HC1.out HD.out HAL.out 3 (D.row t3 1 v3 d3) rfl)
  have q3:=cell_keep hbw (zcc HC2.out HD'.out HAL'.out 3 (D.row yt3 1 yv3 yd3) rfl);simp only[val] at p3 q3;have p4:=cell_keep hbw (zcc HC1.out HD.out HAL.out 4 (D.row t4 5 v4 d4) rfl);have q4:=cell_keep hbw (zcc HC2.out HD'.out HAL'.out 4 (D.row yt4 5 yv4 yd4) rfl);simp only[val] at p4 q4;have hit:zat lo1 w [D.str s0,D.bool x1,D.row t2 1 v2 d2,D.row t3 1 v3 d3,D.row t4 5 v4 d4]:=(zat.append.1 ((zat.append.1 (HD.out▸HDS.out)).2)).1
  have hit':zat lo2 w [D.str s0,D.bool x1,D.row yt2 1 yv2 yd2,D.row yt3 1 yv3 yd3,D.row yt4 5 yv4 yd4]:=(zat.append.1 ((zat.append.1 (HD'.out▸HES.out)).2)).1;have KI:=fun (w':World) (hb:Below w.heap.size w w')=>zH (zl4 lo1 lo2 w' [D.str s0,D.bool x1,D.row t2 1 v2 d2,D.row t3 1 v3 d3,D.row t4 5 v4 d4] [D.str s0,D.bool x1,D.row yt2 1 yv2 yd2,D.row yt3 1 yv3 yd3,D.row yt4 5 yv4 yd4] HEI.out HFI.out (hit.below hb) (hit'.below hb))
  have HD2:Hid (ds=(A++[D.str s0,D.bool x1,D.row t2 1 v2 d2,D.row t3 1 v3 d3,D.row t4 5 v4 d4])++rest):=zH (by rw[HD.out,List.append_assoc]);have HE2:Hid (es=(A'++[D.str s0,D.bool x1,D.row yt2 1 yv2 yd2,D.row yt3 1 yv3 yd3,D.row yt4 5 yv4 yd4])++rest'):=zH (by rw[HD'.out,List.append_assoc]);have HAL2:Hid ((A++[D.str s0,D.bool x1,D.row t2 1 v2 d2,D.row t3 1 v3 d3,D.row t4 5 v4 d4]).length=(i+1)*5):=zH (by rw[List.length_append,HAL.out,Nat.succ_mul];rfl)
  have HAL3:Hid ((A'++[D.str s0,D.bool x1,D.row yt2 1 yv2 yd2,D.row yt3 1 yv3 yd3,D.row yt4 5 yv4 yd4]).length=(i+1)*5):=zH (by rw[List.length_append,HAL'.out,Nat.succ_mul];rfl);have HB:=zH hbw;clear hit hit' hbw HFI HEI HD HD' HAL HAL' f2 yf2 g2 f3 yf3 g3 f4 yf4 g4;simp only[agg,vals,List.map,val] at KI;go_wp2_with fail
  go_region_held3 (fun w'=>w'.cell? ⟨bk1,o1+i*5,none⟩=some (Value.string s0)/\w'.cell? ⟨bk1,o1+i*5+1,none⟩=some (Value.bool x1)/\w'.cell? ⟨bk1,o1+i*5+2,none⟩=some v2/\w'.cell? ⟨bk1,o1+i*5+3,none⟩=some v3/\w'.cell? ⟨bk1,o1+i*5+4,none⟩=some v4/\w'.cell? ⟨bk2,o2+i*5,none⟩=some (Value.string s0)/\w'.cell? ⟨bk2,o2+i*5+1,none⟩=some (Value.bool x1)/\w'.cell? ⟨bk2,o2+i*5+2,none⟩=some yv2/\w'.cell? ⟨bk2,o2+i*5+3,none⟩=some yv3/\w'.cell? ⟨bk2,o2+i*5+4,none⟩=some yv4)
   (first|exact ⟨p0,p1,p2,p3,p4,q0,q1,q2,q3,q4⟩|exact ⟨cell_keep hb1 (show wr.drew.cell? _=_ from p0),cell_keep hb1 (show wr.drew.cell? _=_ from p1),cell_keep hb1 (show wr.drew.cell? _=_ from p2),cell_keep hb1 (show wr.drew.cell? _=_ from p3),cell_keep hb1 (show wr.drew.cell? _=_ from p4),cell_keep hb1 (show wr.drew.cell? _=_ from q0),cell_keep hb1 (show wr.drew.cell? _=_ from q1),cell_keep hb1 (show wr.drew.cell? _=_ from q2),cell_keep hb1 (show wr.drew.cell? _=_ from q3),cell_keep hb1 (show wr.drew.cell? _=_ from q4)⟩|go_keep)
   (first|(go_at_call 19;refine (KI _ HB.out.drew).out.mono ?_;rintro e w1 ⟨rfl,hb1⟩))
  all_goals go_wp2_with fail
  go_roundw
  case rel=>exact ⟨i+1,A++[D.str s0,D.bool x1,D.row t2 1 v2 d2,D.row t3 1 v3 d3,D.row t4 5 v4 d4],rest,A'++[D.str s0,D.bool x1,D.row yt2 1 yv2 yd2,D.row yt3 1 yv3 yd3,D.row yt4 5 yv4 yd4],rest',HD2.out,HE2.out,HAL2.out,HAL3.out,HFR.out,HER.out,by go_num,HB.out.drew.trans (hb1.mono HB.out.size)⟩
  case measure=>simp[intOf];omega
end Data
end Go.Proofs.YtlmhgeanknhcfaaGreatDoor
namespace Go.Proofs.YtlmhgeanknhcfaaGreatDoor.Data
open Go.RowKit
open Strs Tree
mutual
def zch:E->List P
 | .mk k t n ns ks=>[.int k,.str t,.int n,.row 1 (ns.map P.str),.row 5 (zay ks)]
def zay:List E->List P
 | []=>[]
 | e::es=>zch e++zay es
end
theorem zlo (e:E):zch e=[.int e.kind,.str e.text,.int e.num,.row 1 (e.names.map P.str),.row 5 (zay e.kids)]:=by
 cases e with
 | mk k t n ns ks=>rw[zch];rfl
theorem zju (e:E):(zch e).length=5:=by rw[zlo];rfl
theorem zdg (es:List E):(zay es).length=es.length*5:=by
 induction es with
 | nil=>rfl
 | cons e es ih=>rw[zay,List.length_append,zju,ih,List.length_cons,Nat.succ_mul,Nat.add_comm]
theorem zsj:∀ e,Data.weights (zch e)=Tree.weight e:=by
 refine Tree.ind fun k t n ns ks ih=>?_
 have h:∀ l:List E,(∀ e,e∈l->Data.weights (zch e)=Tree.weight e)->Data.weights (zay l)=Tree.weights l:=by
  intro l
  induction l with
  | nil=>intro _;rfl
  | cons e es ihl=>intro hl;rw[zay,Data.zbb,hl e (by simp),ihl fun x hx=>hl x (by simp[hx]),Tree.weights]
 rw[zch,Tree.weight];simp only[Data.weights,Data.weight];rw[List.length_map,zex,h ks ih,zdg,Nat.mul_div_cancel _ (by decide),Nat.div_one];omega
theorem zkj (es:List E):Data.weights (zay es)=Tree.weights es:=by
 induction es with
 | nil=>rfl
 | cons e es ih=>rw[zay,Data.zbb,zsj,ih,Tree.weights]
theorem zm9:∀ (xs ys:List ByteArray),xs.map P.str=ys.map P.str->xs=ys:=by
 intro xs ys h;have inj:∀ a b:ByteArray,P.str a=P.str b->a=b:=fun a b h=>by cases h;rfl
 exact (List.map_inj_right inj).1 h
theorem zzp:∀ a b:E,zch a=zch b->a=b:=by
 refine Tree.ind fun k t n ns ks ih=>?_
 intro b h;cases b with
 | mk k' t' n' ns' ks'=>
  rw[zch,zch] at h;simp only[List.cons.injEq,P.int.injEq,P.str.injEq,P.row.injEq,true_and,and_true] at h;obtain ⟨rfl,rfl,rfl,h4,h5⟩:=h;rw[zm9 _ _ h4]
  have hk:∀ (l l':List E),(∀ e,e∈l->∀ b,zch e=zch b->e=b)->zay l=zay l'->l=l':=by
   intro l
   induction l with
   | nil=>
    intro l' _ he;cases l' with
    | nil=>rfl
    | cons x xs=>have:=congrArg List.length he;rw[zdg,zdg] at this;simp at this
   | cons e es ihl=>
    intro l' hl he;cases l' with
    | nil=>have:=congrArg List.length he;rw[zdg,zdg] at this;simp at this
    | cons x xs=>rw[zay,zay] at he;have h1:=List.append_inj he (by rw[zju,zju]);rw[hl e (by simp) x h1.1,ihl xs (fun y hy=>hl y (by simp[hy])) h1.2]
  rw[hk ks ks' ih h5]
theorem zwa (a b:List E) (h:zay a=zay b):a=b:=by
 have:=zzp (.mk 0 ByteArray.empty 0 [] a) (.mk 0 ByteArray.empty 0 [] b) (by rw[zch,zch,h])
 injection this
theorem z9f:∀ (n:Nat) (ps:List P),ps.length<=n->za7 0 ps->∃ xs:List ByteArray,ps=xs.map P.str:=by
 intro n
 induction n with
 | zero=>intro ps hl _;exact ⟨[],List.eq_nil_of_length_eq_zero (Nat.le_zero.1 hl)⟩
 | succ n ih=>
  intro ps hl h;rcases zif h with rfl|⟨item,rest,rfl,h1,h2⟩
  ·exact ⟨[],rfl⟩
  ·cases h1 with
   | cons _ _ p ps h3 h4=>
    cases h4;cases h3 with
    | str s=>obtain ⟨xs,rfl⟩:=ih rest (by simp at hl;omega) h2;exact ⟨s::xs,rfl⟩
theorem z90:∀ (n:Nat) (ps:List P),zdi ps<=n->(za7 2 ps->∃ es,ps=zay es)/\(zdc (env 2) ps->∃ e,ps=zch e):=by
 intro n
 induction n with
 | zero=>
  intro ps hm;cases ps with
  | nil=>exact ⟨fun _=>⟨[],rfl⟩,fun h=>by cases h⟩
  | cons p ps=>
   rw[zdi] at hm;have:0<ybz p:=by cases p<;>rw[ybz]<;>omega
   omega
 | succ n ih=>
  have one:∀ ps,zdi ps<=n+1->zdc (env 2) ps->∃ e,ps=zch e:=by
   intro ps hm h;cases h with
   | cons _ _ p0 _ g0 h=>
   cases h with
   | cons _ _ p1 _ g1 h=>
   cases h with
   | cons _ _ p2 _ g2 h=>
   cases h with
   | cons _ _ p3 _ g3 h=>
   cases h with
   | cons _ _ p4 _ g4 h=>
   cases h;cases g0 with
   | int k=>
   cases g1 with
   | str t=>
   cases g2 with
   | int m=>
   cases g3 with
   | row _ _ q3 hk3 f3=>
   cases g4 with
   | row _ _ q4 hk4 f4=>
   subst hk3 hk4;obtain ⟨xs,rfl⟩:=z9f _ q3 (zL _) f3;obtain ⟨es,rfl⟩:=(ih q4 (by simp only[zdi,ybz] at hm;omega)).1 f4;exact ⟨.mk k t m xs es,by rw[zch];rfl⟩
  have many:∀ (j:Nat) (ps:List P),ps.length<=j->zdi ps<=n+1->za7 2 ps->∃ es,ps=zay es:=by
   intro j
   induction j with
   | zero=>intro ps hl _ _;exact ⟨[],List.eq_nil_of_length_eq_zero (Nat.le_zero.1 hl)⟩
   | succ j ihj=>
    intro ps hl hm h;rcases zif h with rfl|⟨item,rest,rfl,h1,h2⟩
    ·exact ⟨[],rfl⟩
    ·have hil:=zfe h1
     rw[zdv] at hm;rw[List.length_append] at hl;have h5:(env 2).length=5:=rfl;obtain ⟨e,rfl⟩:=one item (by omega) h1;obtain ⟨es,rfl⟩:=ihj rest (by omega) (by omega) h2;exact ⟨e::es,by rw[zay]⟩
  exact fun ps hm=>⟨many _ ps (zL _) hm,one ps hm⟩
theorem z1i {ds:List D} (h:za7 2 (zaa ds)):∃ es,zaa ds=zay es:=(z90 _ _ (zL _)).1 h
theorem zql:∀ e,zdc (env 2) (zch e):=by
 refine Tree.ind fun k t n ns ks ih=>?_
 rw[zch];refine zdc.cons _ _ _ _ (Fit.int _) (zdc.cons _ _ _ _ (Fit.str _) (zdc.cons _ _ _ _ (Fit.int _) (zdc.cons _ _ _ _ (Fit.row _ _ _ rfl (zl0 ns)) (zdc.cons _ _ _ _ (Fit.row _ _ _ rfl ?_) zdc.nil))))
 have h:∀ l:List E,(∀ e,e∈l->zdc (env 2) (zch e))->za7 2 (zay l):=by
  intro l
  induction l with
  | nil=>intro _;exact za7.nil 2
  | cons e es ihl=>intro hl;rw[zay];exact za7.cons 2 _ _ _ rfl (hl e (by simp)) (ihl fun x hx=>hl x (by simp[hx]))
 exact h ks ih
theorem zv4 (es:List E):za7 2 (zay es):=by
 induction es with
 | nil=>exact za7.nil 2
 | cons e es ih=>rw[zay];exact za7.cons 2 _ _ _ rfl (zql e) ih
theorem z3n {ds:List D} {e:E} (h:zaa ds=zch e):∃ t3 v3 d3 t4 v4 d4,ds=[.int e.kind,.str e.text,.int e.num,.row t3 1 v3 d3,.row t4 5 v4 d4]/\d3=strs e.names/\zaa d4=zay e.kids:=by
 have hf:zdc (env 2) (zaa ds):=h▸zql e;obtain ⟨n0,e0,rfl,hf0⟩:=zd8 hf;obtain ⟨s1,e1,rfl,hf1⟩:=za4 hf0;obtain ⟨n2,e2,rfl,hf2⟩:=zd8 hf1;obtain ⟨t3,v3,d3,e3,rfl,f3,hf3⟩:=zak (k:=1) rfl hf2;obtain ⟨t4,v4,d4,e4,rfl,f4,hf4⟩:=zak (k:=5) rfl hf3;obtain rfl:=zbh hf4;rw[zlo] at h;simp only[zaa,erase,List.cons.injEq,P.int.injEq,P.str.injEq,P.row.injEq,true_and,and_true] at h
 obtain ⟨rfl,rfl,rfl,h3,h4⟩:=h;obtain ⟨xs,rfl⟩:=zic f3;rw[zb0] at h3;exact ⟨t3,v3,_,t4,v4,d4,rfl,by rw[zm9 _ _ h3],h4⟩
theorem z0h {ds:List D} {e:E} {es:List E} (h:zaa ds=zay (e::es)):∃ x y,ds=x++y/\zaa x=zch e/\zaa y=zay es:=by rw[zay] at h;exact zek h
theorem z2y:∀ (es:List E) (ds:List D),zaa ds=zay es->∀ i (h:i<es.length),∃ A x B,ds=A++(x++B)/\A.length=i*5/\zaa x=zch es[i]:=by
 intro es
 induction es with
 | nil=>intro ds _ i h;simp at h
 | cons e es ih=>
  intro ds h i hi;obtain ⟨x,y,rfl,h1,h2⟩:=z0h h;cases i with
  | zero=>exact ⟨[],x,y,rfl,by simp,h1⟩
  | succ i=>
   obtain ⟨A,x',B,rfl,h3,h4⟩:=ih y h2 i (by simpa using hi);refine ⟨x++A,x',B,by rw[List.append_assoc],?_,h4⟩
   have:x.length=5:=by have:=congrArg List.length h1;rw[za0,zju] at this;exact this
   rw[List.length_append,this,h3,Nat.succ_mul];omega
theorem ycv {lo:Nat} {w:World}:∀ e (ds:List D) (t3 t4:Nat) (v3 v4:Value) (d3 d4:List D),ds=[.int e.kind,.str e.text,.int e.num,.row t3 1 v3 d3,.row t4 5 v4 d4]->zaa ds=zch e->zat lo w ds->zaw lo w e v3 v4:=by
 refine Tree.ind fun k t n ns ks ih=>?_
 intro ds t3 t4 v3 v4 d3 d4 hds he hh;subst hds;rw[zch] at he;simp only[E.kind,E.text,E.num,zaa,erase,List.cons.injEq,P.row.injEq,true_and,and_true] at he hh;obtain ⟨h3,h4⟩:=he;simp only[zat,and_true] at hh;obtain ⟨g0,g1,g2,g3,g4⟩:=hh;replace g0:(Lit.int .i64 k).wf=true:=by simpa only[Holds] using g0
 replace g1:t.size<=maxLen:=by simpa only[Holds] using g1
 replace g2:(Lit.int .i64 n).wf=true:=by simpa only[Holds] using g2
 rw[zbn];refine ⟨g0,g2,g1,?_,?_⟩
 ·obtain ⟨xs,rfl⟩:=zic (ds:=d3) (h3▸zl0 ns)
  rw[zb0] at h3;rw[zm9 _ _ h3] at g3;exact zdp g3
 ·show zdh lo w ks v4
  rw[Holds] at g4;obtain ⟨⟨a,m,cap,rfl,-,hl,hc1,hc2,hc⟩,hk⟩:=g4;have hlen:=congrArg List.length h4;rw[za0,zdg] at hlen;have hm:m=ks.length:=by omega
  subst hm;refine ⟨a,cap,rfl,⟨hc1,hc2⟩,fun hp=>?_⟩
  obtain ⟨b,o,rfl,hb,hcell⟩:=hc hp;refine ⟨b,o,rfl,hb,?_⟩;rw[Tree.row_iff];intro i hi;obtain ⟨A,x,B,hd,hal,hx⟩:=z2y ks d4 h4 i hi;obtain ⟨u3,w3,f3,u4,w4,f4,hx5,-,-⟩:=z3n hx;have hxh:zat lo w x:=(zat.append.1 (zat.append.1 (hd▸hk)).2).1;refine ⟨w3,w4,?_,?_,?_,?_,?_,ih _ (List.getElem_mem _) x u3 u4 w3 w4 f3 f4 hx5 hx hxh⟩
  ·exact zh8 hcell hd hal (.int ks[i].kind) (by rw[hx5];rfl)
  ·exact zcc hcell hd hal 1 (.str ks[i].text) (by rw[hx5];rfl)
  ·exact zcc hcell hd hal 2 (.int ks[i].num) (by rw[hx5];rfl)
  ·exact zcc hcell hd hal 3 (.row u3 1 w3 f3) (by rw[hx5];rfl)
  ·exact zcc hcell hd hal 4 (.row u4 5 w4 f4) (by rw[hx5];rfl)
theorem z3a {lo t:Nat} {w:World} {v:Value} {ds:List D} {es:List E} (he:zaa ds=zay es) (hh:Holds lo w (.row t 5 v ds)):zdh lo w es v:=by
 have h:=ycv (lo:=lo) (w:=w) (.mk 0 ByteArray.empty 0 [] es) [.int 0,.str ByteArray.empty,.int 0,.row 0 1 (.slice none 0 0) [],.row t 5 v ds] 0 t (.slice none 0 0) v [] ds rfl (by rw[zch];simp[zaa,erase,he]) (by
  simp only[zat,and_true];refine ⟨by rw[Holds];decide,by rw[Holds];unfold maxLen;decide,by rw[Holds];decide,?_,hh⟩
  rw[Holds];exact ⟨⟨none,0,0,rfl,by decide,by simp,zL _,by unfold maxLen;omega,fun hp=>by omega⟩,trivial⟩)
 exact (zbn.1 h).2.2.2.2
theorem zeu {lo:Nat} {w:World} {xs:List ByteArray} {v:Value} (h:zbv lo w xs v) (t:Nat):Holds lo w (.row t 1 v (strs xs)):=by
 obtain ⟨a,cap,rfl,⟨h1,h2⟩,h3,h4⟩:=h;rw[Holds];refine ⟨⟨a,xs.length,cap,rfl,by decide,by rw[zeb,Nat.mul_one],h1,h2,fun hp=>?_⟩,zbo.2 fun d hd=>?_⟩
 ·obtain ⟨b,o,rfl,hb,hc⟩:=h4 hp
  refine ⟨b,o,rfl,hb,fun j hj=>?_⟩
  rw[zeb] at hj;rw[hc j hj];simp[strs,val]
 ·simp only[strs,List.mem_map] at hd
  obtain ⟨x,hx,rfl⟩:=hd;rw[Holds];exact h3 x hx
theorem zz9 {lo:Nat} {w:World} (t3 t4:Nat):∀ e v3 v4,zaw lo w e v3 v4->∃ d4,zaa [.int e.kind,.str e.text,.int e.num,.row t3 1 v3 (strs e.names),.row t4 5 v4 d4]=zch e/\zat lo w [.int e.kind,.str e.text,.int e.num,.row t3 1 v3 (strs e.names),.row t4 5 v4 d4]:=by
 refine Tree.ind fun k t n ns ks ih=>?_
 intro v3 v4 h;rw[zbn] at h;obtain ⟨h1,h2,h3,h4,a,cap,rfl,⟨hc1,hc2⟩,hc⟩:=h;simp only[E.kind,E.text,E.num,E.names,E.kids] at *;by_cases hp:0<ks.length
 ·obtain ⟨b,o,rfl,hb,hr⟩:=hc hp
  have go:∀ (l:List E) (o':Nat),(∀ e,e∈l->∀ v3 v4,zaw lo w e v3 v4->∃ d4,zaa [.int e.kind,.str e.text,.int e.num,.row t3 1 v3 (strs e.names),.row t4 5 v4 d4]=zch e/\zat lo w [.int e.kind,.str e.text,.int e.num,.row t3 1 v3 (strs e.names),.row t4 5 v4 d4]) ->
    Tree.Row lo w b l o'->∃ ds,zaa ds=zay l/\zat lo w ds/\∀ j (h:j<ds.length),w.cell? ⟨b,o'+j,none⟩=some (val ds[j]):=by
   intro l
   induction l with
   | nil=>intro o' _ _;exact ⟨[],rfl,trivial,fun j hj=>by simp at hj⟩
   | cons e es ihl=>
    intro o' hl hrow;rw[Tree.Row] at hrow;obtain ⟨⟨vn,vk,c0,c1,c2,c3,c4,hn⟩,hrest⟩:=hrow;obtain ⟨d4,he,hh⟩:=hl e (by simp) vn vk hn;obtain ⟨ds,hes,hhs,hcs⟩:=ihl (o'+5) (fun x hx=>hl x (by simp[hx])) hrest
    refine ⟨[.int e.kind,.str e.text,.int e.num,.row t3 1 vn (strs e.names),.row t4 5 vk d4]++ds,by rw[zao,he,hes,zay],zat.append.2 ⟨hh,hhs⟩,fun j hj=>?_⟩
    match j,hj with
    | 0,_=>exact c0
    | 1,_=>exact c1
    | 2,_=>exact c2
    | 3,_=>exact c3
    | 4,_=>exact c4
    | j+5,hj=>
     have:=hcs j (by simpa using hj);rw[show o'+(j+5)=o'+5+j by omega,this]
     rfl
  obtain ⟨ds,hes,hhs,hcs⟩:=go ks o ih hr;have hlen:=congrArg List.length hes;rw[za0,zdg] at hlen;refine ⟨ds,?_,?_⟩
  ·rw[zch]
   simp only[zaa,erase,zb0,hes]
  ·simp only[zat,and_true]
   refine ⟨by rw[Holds];exact h1,by rw[Holds];exact h3,by rw[Holds];exact h2,zeu h4 t3,?_⟩
   rw[Holds];exact ⟨⟨_,ks.length,cap,rfl,by decide,hlen,hc1,hc2,fun _=>⟨b,o,rfl,hb,hcs⟩⟩,hhs⟩
 ·have hk0:ks=[]:=List.eq_nil_of_length_eq_zero (by omega)
  subst hk0;refine ⟨[],?_,?_⟩
  ·rw[zch]
   simp only[zaa,erase,zb0,zay]
  ·simp only[zat,and_true]
   refine ⟨by rw[Holds];exact h1,by rw[Holds];exact h3,by rw[Holds];exact h2,zeu h4 t3,?_⟩
   rw[Holds];exact ⟨⟨a,0,cap,rfl,by decide,by simp,hc1,hc2,fun hp=>by omega⟩,trivial⟩
theorem zqy {lo:Nat} {w:World} {es:List E} {v:Value} (h:zdh lo w es v) (t:Nat):∃ ds,zaa ds=zay es/\Holds lo w (.row t 5 v ds):=by
 have hn:zaw lo w (.mk 0 ByteArray.empty 0 [] es) (.slice none 0 0) v:=zbn.2 ⟨show (Lit.int .i64 0).wf=true by decide,show (Lit.int .i64 0).wf=true by decide,show ByteArray.empty.size<=maxLen by unfold maxLen;decide,
  show zbv lo w [] (.slice none 0 0) from ⟨none,0,rfl,⟨zL _,by unfold maxLen;decide⟩,fun _ h=>by (cases h),fun hp=>by simp at hp⟩,h⟩
 obtain ⟨d4,he,hh⟩:=zz9 0 t (.mk 0 ByteArray.empty 0 [] es) (.slice none 0 0) v hn;refine ⟨d4,?_,?_⟩
 ·rw[zch] at he
  simp only[E.kind,E.text,E.num,E.names,zaa,erase,List.cons.injEq,P.row.injEq,true_and,and_true] at he;exact he.2
 ·simp only[zat,and_true] at hh
  exact hh.2.2.2.2
theorem ycp {base:Nat} {w:World}:∀ e (ds:List D) (t3 t4:Nat) (v3 v4:Value) (d3 d4:List D),ds=[.int e.kind,.str e.text,.int e.num,.row t3 1 v3 d3,.row t4 5 v4 d4]->zaa ds=zch e->zb2 w ds->(∀ b,b∈zah ds->base<=b)->zgy.zgy base w e v4:=by
 refine Tree.ind fun k t n ns ks ih=>?_
 intro ds t3 t4 v3 v4 d3 d4 hds he hg hlo;subst hds;rw[zch] at he;simp only[E.kind,E.text,E.num,zaa,erase,List.cons.injEq,P.row.injEq,true_and,and_true] at he hg hlo;obtain ⟨h3,h4⟩:=he;rw[zam] at hg;have g4:=hg (.row t4 5 v4 d4) (by simp);rw[Good] at g4;obtain ⟨⟨m,-,hl,ho⟩,hk⟩:=g4;have hlen:=congrArg List.length h4;rw[za0,zdg] at hlen;have hm:m=ks.length:=by omega
 subst hm;rw[zgy.zhj];show zgy.zea base w ks v4
 have ho':=ho;obtain ⟨_,⟨rfl,hn⟩|⟨g,cap,cur,rfl,hbg,hgg,hnc,hcm,_,_⟩⟩:=ho
 ·exact ⟨none,0,by rw[hn],fun hp=>by omega⟩
 ·refine ⟨_,cap,rfl,fun hp=>⟨g,0,rfl,hlo g (by simp[zah,foot,blk,Value.ownBlock]),fun o=>ho'.frozenAt o,?_⟩⟩
  rw[zgy.zg4];intro i hi;obtain ⟨A,x,B,hd,hal,hx⟩:=z2y ks d4 h4 i hi;obtain ⟨u3,w3,f3,u4,w4,f4,hx5,-,-⟩:=z3n hx;have hxg:zb2 w x:=(zb2.append.1 (zb2.append.1 (hd▸hk)).2).1
  have hxl:∀ b,b∈zah x->base<=b:=fun b hb=>hlo b (by
   have:b∈zah d4:=by rw[hd,zan,zan];simp[hb]
   simp[zah,foot,this])
  refine ⟨w4,?_,ih _ (List.getElem_mem _) x u3 u4 w3 w4 f3 f4 hx5 hx hxg hxl⟩
  have hcell:∀ j (h:j<d4.length),w.cell? ⟨g,0+j,none⟩=some (val d4[j]):=fun j hj=>by rw[Nat.zero_add,ho'.cellAt j (by omega)];exact zjt d4 j hj
  exact zcc hcell hd hal 4 (.row u4 5 w4 f4) (by rw[hx5];rfl)
theorem zpw {base t:Nat} {w:World} {v:Value} {ds:List D} {es:List E} (he:zaa ds=zay es) (h:Row base w t 5 v ds):zgy.zea base w es v:=by
 have ho:=row_iff.2 h
 have hs:=ycp (base:=base) (w:=w) (.mk 0 ByteArray.empty 0 [] es) [.int 0,.str ByteArray.empty,.int 0,.row 0 1 (.slice none 0 0) [],.row t 5 v ds] 0 t (.slice none 0 0) v [] ds rfl (by rw[zch];simp[zaa,erase,he]) (by
  rw[zam];intro d hd;simp only[List.mem_cons,List.not_mem_nil,or_false] at hd;rcases hd with rfl|rfl|rfl|rfl|rfl
  ·rw[Good];decide
  ·rw[Good];unfold maxLen;decide
  ·rw[Good];decide
  ·rw[Good];exact ⟨⟨0,by decide,rfl,zg0 _ _ _⟩,trivial⟩
  ·exact zam.1 ho.good _ (by simp)) (by
  intro b hb;refine ho.lo b ?_;simp only[zah,foot,List.append_nil,List.nil_append] at hb ⊢
  simpa [blk,Value.ownBlock] using hb)
 exact zgy.zhj.1 hs
end Go.Proofs.YtlmhgeanknhcfaaGreatDoor.Data
