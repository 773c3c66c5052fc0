/-
  Parser ParseIs ParseTake ParseRow ParseKids ParseSend ParseOut BlockRaw ParseBegins ParseStat ParseNames ParseBlock ParsePrim ParseOff ParseUn ParseBin ParseKey ParseMsg ParseExpr ParseExprW
-/
import Derived.Test.YtbigfeblomfflaaGreatDoorB30
import Derived.Test.YtbigfeblomfflaaGreatDoorB16
import Derived.Laws.AppendOwnNone
import Derived.Lib.QuietBelow
import Derived.Deep.DeepCutAuto
set_option maxHeartbeats 4000000
set_option maxRecDepth 10000
namespace Go.Proofs.YtbigfeblomfflaaGreatDoor
namespace Parser
open Go.RowKit
open Strs Tree Gram
structure Cst where
 pb:Nat
 ta:Option Addr
 cap:Nat
 toks:List Tok.T
structure Fit (P:Cst):Prop where
 len:P.toks.length<=800
 cap:P.toks.length<=P.cap
 cap2:P.cap<=maxLen
 text:∀ t,t∈P.toks->t.text.size<=4000
 kind:∀ t,t∈P.toks->(Lit.int .i64 t.kind).wf=true
 num:∀ t,t∈P.toks->(Lit.int .i64 t.num).wf=true
def rest (P:Cst) (p:Nat):R:=P.toks.drop p
theorem other (w:World) (pb o' b o:Nat) (v u:Value) (h:b≠pb\/o≠o') (hc:w.cell? ⟨b,o,none⟩=some u):(w.setCell ⟨pb,o',none⟩ v).cell? ⟨b,o,none⟩=some u:=
 (World.cell?_setCell_other _ _ _ _ (by intro e;injection e with e1 e2 e3;omega)).trans hc
def Turn (P:Cst) (w w':World):Prop:=w.grownBy w' (some P.pb)
theorem Turn.refl (P:Cst) (w:World):Turn P w w:=⟨rfl,rfl,rfl,zL _,fun _ _ _=>rfl⟩
theorem Turn.trans {P:Cst} {a b c:World} (h:Turn P a b) (k:Turn P b c):Turn P a c:=World.grownBy.trans h k
theorem Turn.below {P:Cst} {a b c:World} (h:Turn P a b) (k:Below b.heap.size b c):Turn P a c:=h.trans ⟨k.os,k.tape,k.output,k.size,fun i hi _=>k.block i hi⟩
theorem Turn.set {P:Cst} {a b:World} (h:Turn P a b) (o:Nat) (v:Value):Turn P a (b.setCell ⟨P.pb,o,none⟩ v):=
 h.trans ⟨rfl,rfl,rfl,by simp[World.setCell],fun k _ hk=>Below.heap_setCell _ _ _ _ (fun e=>hk (by rw[e]))⟩
theorem rest_cons {P:Cst} {p:Nat} {t:Tok.T} {r:R} (h:rest P p=t::r):p<P.toks.length/\P.toks[p]?=some t/\rest P (p+1)=r:=by
 unfold rest at *
 have hp:p<P.toks.length:=by
  rcases Nat.lt_or_ge p P.toks.length with h1|h1
  ·exact h1
  ·rw[List.drop_of_length_le h1] at h;cases h
 rw[List.drop_eq_getElem_cons hp] at h
 injection h with h1 h2
 exact ⟨hp,by rw[List.getElem?_eq_getElem hp,h1],h2⟩
theorem zar (P:Cst) (p:Nat):(rest P p).length=P.toks.length-p:=by unfold rest;simp
theorem zak (P:Cst) (p:Nat):(rest P p).tail=rest P (p+1):=by unfold rest;rw[List.tail_drop]
end Parser
namespace Parser
open Go.RowKit
open Strs Tree Gram
theorem kind_eq (a b:Int):(a==b)=decide (a=b):=by
 by_cases h:a=b
 ·subst h;simp
 ·rw[decide_eq_false h];simpa using h
theorem text_ne {s t:ByteArray} (h:¬s=t):(s.toList==t.toList)=false:=by
 refine Bool.eq_false_iff.2 fun e=>h ?_
 have e1:=eq_of_beq e;rw[ByteArray.toList_eq,ByteArray.toList_eq] at e1;exact ByteArray.ext (Array.ext' e1)
end Parser
namespace Parser
open Go.RowKit
open Strs Tree Gram
end Parser
namespace Parser
open Go.RowKit
open Strs Tree Gram
def Lo (P:Cst) (base:Nat):Prop:=P.pb<base/\∀ b o,0<P.toks.length->P.ta=some ⟨b,o,none⟩->b<base
theorem Lo.le {P:Cst} {a b:Nat} (h:Lo P a) (hab:a<=b):Lo P b:=⟨Nat.lt_of_lt_of_le h.1 hab,fun x o hl e=>Nat.lt_of_lt_of_le (h.2 x o hl e) hab⟩
theorem cell_low {w w':World} {base b o:Nat} {v:Value} (hb:Below base w w') (hlt:b<base) (h:w.cell? ⟨b,o,none⟩=some v):w'.cell? ⟨b,o,none⟩=some v:=by rw[hb.cell (p:=⟨b,o,none⟩) hlt];exact h
theorem Turn.low {P:Cst} {a b c:World} (h:Turn P a b) (k:Below a.heap.size b c):Turn P a c:=by have h':a.grownBy b (some P.pb):=h;exact ⟨k.os.trans h'.os,k.tape.trans h'.tape,k.output.trans h'.output,Nat.le_trans h'.size k.size,fun i hi hn=>(k.block i hi).trans (h'.block i hi hn)⟩
theorem Turn.size {P:Cst} {a b:World} (h:Turn P a b):a.heap.size<=b.heap.size:=World.grownBy.size h
theorem own_turn {P:Cst} {w w':World} {base:Nat} {e:TypeId} {size:Nat} {v:Value} {n:Nat} {xs:List Value} (h:w.ownsRow base e size v n xs) (ht:Turn P w w') (hp:P.pb<base):w'.ownsRow base e size v n xs:=by
 have hlt:=h.lt;refine ⟨h.1,?_⟩;rcases h.2 with hn|⟨g,cap,cur,rfl,hbg,hgg,rest⟩
 ·exact .inl hn
 ·refine .inr ⟨g,cap,cur,rfl,hbg,?_,rest⟩
  rw[World.grownBy.block ht g (hlt g rfl).2 (by simp;omega)];exact hgg
theorem texts_own {w:World} {base lo:Nat} {v:Value} {xs:List ByteArray} (h:w.ownsRow base 9 1 v xs.length (xs.map Value.string)) (hlo:lo<=base) (hx:∀ x,x∈xs->x.size<=maxLen):Texts lo w xs v:=by
 have h':=h;obtain ⟨_,⟨rfl,hn⟩|⟨g,cap,cur,rfl,hbg,hg,hnc,hcm,_,_⟩⟩:=h
 ·exact ⟨none,0,by rw[hn],⟨by omega,by unfold maxLen;omega⟩,hx,fun hp=>by omega⟩
 ·refine ⟨_,cap,rfl,⟨hnc,hcm⟩,hx,fun hp=>⟨g,0,rfl,by omega,fun j hj=>?_⟩⟩
  rw[Nat.zero_add,h'.cellAt j (by omega)];simp[hj]
theorem app_low {wr w':World} {base:Nat} {e:TypeId} {o:Obj} {v:Value} {n sz:Nat} {xs:List Value} (hb:base<=wr.heap.size) (hown:wr.ownsRow base e sz v n xs) (hg:(wr.alloc o).grownBy w' v.ownBlock):Below base wr w':=
 ((zB base wr).alloc hb o).grown hg (by simp;omega) (fun k hk=>(hown.lt k hk).1)
theorem text_le {P:Cst} {p:Nat} (hf:Fit P):(txt (rest P p)).size<=4000:=by
 generalize hr:rest P p=r;cases r with
 | nil=>exact Nat.zero_le _
 | cons t r=>exact hf.text t (List.mem_of_getElem? (rest_cons hr).2.1)
theorem own_set {w:World} {base:Nat} {e:TypeId} {size:Nat} {v:Value} {n:Nat} {xs:List Value} (h:w.ownsRow base e size v n xs) (a:Addr) (u:Value) (hp:a.block<base):(w.setCell a u).ownsRow base e size v n xs:=by
 refine ⟨h.1,?_⟩;rcases h.2 with hn|⟨g,cap,cur,rfl,hbg,hgg,rest⟩
 ·exact .inl hn
 ·refine .inr ⟨g,cap,cur,rfl,hbg,?_,rest⟩
  rw[Below.heap_setCell _ _ _ _ (by omega)];exact hgg
def put5 (w:World) (B:Nat) (a b c d e:Value):World:=((((w.setCell ⟨B,0,none⟩ a).setCell ⟨B,1,none⟩ b).setCell ⟨B,2,none⟩ c).setCell ⟨B,3,none⟩ d).setCell ⟨B,4,none⟩ e
theorem zah {base:Nat} {w0 w:World} (h:Below base w0 w) {B:Nat} (hB:base<=B) (a b c d e:Value):Below base w0 (put5 w B a b c d e):=((((h.setCell hB _).setCell hB _).setCell hB _).setCell hB _).setCell hB _
theorem own_put5 {w:World} {base:Nat} {e:TypeId} {size:Nat} {v:Value} {n:Nat} {xs:List Value} (h:w.ownsRow base e size v n xs) {B:Nat} (hB:B<base) (a b c d f:Value):(put5 w B a b c d f).ownsRow base e size v n xs:=
 own_set (own_set (own_set (own_set (own_set h _ _ hB) _ _ hB) _ _ hB) _ _ hB) _ _ hB
theorem kept_put5 (w:World) {B lo:Nat} (h:B<lo) (a b c d e:Value):Kept lo w (put5 w B a b c d e):=
 ((((kept_set w ⟨B,0,none⟩ a h).trans (kept_set _ ⟨B,1,none⟩ b h)).trans (kept_set _ ⟨B,2,none⟩ c h)).trans (kept_set _ ⟨B,3,none⟩ d h)).trans (kept_set _ ⟨B,4,none⟩ e h)
structure Zero (B:Nat) (wr:World):Prop where
 size:B<wr.heap.size
 z0:wr.cell? ⟨B,0,none⟩=some (.int .i64 0)
 z1:wr.cell? ⟨B,1,none⟩=some (.string ⟨#[]⟩)
 z2:wr.cell? ⟨B,2,none⟩=some (.int .i64 0)
 z3:wr.cell? ⟨B,3,none⟩=some (.slice none 0 0)
 z4:wr.cell? ⟨B,4,none⟩=some (.slice none 0 0)
 fz:∀ o,wr.frozen? ⟨B,o,none⟩=false
theorem Zero.same {B:Nat} {wr w':World} (h:Zero B wr) (hs:wr.heap.size<=w'.heap.size) (hb:w'.heap[B]?=wr.heap[B]?):Zero B w':=by
 have hc:∀ o,w'.cell? ⟨B,o,none⟩=wr.cell? ⟨B,o,none⟩:=fun o=>World.cell?_of_block (a:=⟨B,o,none⟩) hb
 have hf:∀ o,w'.frozen? ⟨B,o,none⟩=wr.frozen? ⟨B,o,none⟩:=fun o=>World.frozen?_of_block (a:=⟨B,o,none⟩) hb
 exact ⟨Nat.lt_of_lt_of_le h.size hs,(hc 0).trans h.z0,(hc 1).trans h.z1,(hc 2).trans h.z2,(hc 3).trans h.z3,(hc 4).trans h.z4,fun o=>(hf o).trans (h.fz o)⟩
theorem Zero.low {B base:Nat} {wr w':World} (h:Zero B wr) (hb:Below base wr w') (hB:B<base):Zero B w':=h.same hb.size (hb.block B hB)
theorem Zero.step {B:Nat} {wr w':World} (h:Zero B wr) (hb:Below wr.heap.size wr w'):Zero B w':=h.low hb h.size
theorem Zero.turn {P:Cst} {B:Nat} {wr w':World} (h:Zero B wr) (ht:Turn P wr w') (hB:B≠P.pb):Zero B w':=h.same ht.size (World.grownBy.block ht B h.size (by simpa using hB))
theorem zero_new (w:World) (T:TypeId):Zero w.heap.size (w.alloc (.cells #[.int .i64 0,.string ⟨#[]⟩,.int .i64 0,.slice none 0 0,.slice none 0 0] T)):=by
 refine ⟨by simp,?_,?_,?_,?_,?_,fun o=>?_⟩
 all_goals go_simp
def TextsN (lo:Nat) (w:World) (xs:List ByteArray) (v:Value):Prop:=
 (∀ x,x∈xs->x.size<=maxLen)/\∃ b o c,v=.slice (some ⟨b,o,none⟩) xs.length c/\xs.length<=c/\c<=maxLen/\lo<=b/\∀ j (h:j<xs.length),w.cell? ⟨b,o+j,none⟩=some (.string xs[j])
theorem za3 {w:World} {base lo:Nat} {v:Value} {xs:List ByteArray} (h:w.ownsRow base 9 1 v xs.length (xs.map Value.string)) (hn:v≠.slice none 0 0) (hlo:lo<=base) (hx:∀ x,x∈xs->x.size<=maxLen):TextsN lo w xs v:=by
 have h':=h;obtain ⟨_,⟨rfl,_⟩|⟨g,cap,cur,rfl,hbg,hg,hnc,hcm,_,_⟩⟩:=h
 ·exact absurd rfl hn
 ·refine ⟨hx,g,0,cap,rfl,hnc,hcm,by omega,fun j hj=>?_⟩
  rw[Nat.zero_add,h'.cellAt j (by omega)];simp[hj]
end Parser
namespace Parser
open Go.RowKit
open Strs Tree Gram
abbrev Item:=E×Value×Value
def cells5 (x:Item):List Value:=[.int .i64 x.1.kind,.string x.1.text,.int .i64 x.1.num,x.2.1,x.2.2]
def row5 (L:List Item):List Value:=L.flatMap cells5
def trees (L:List Item):List E:=L.map (·.1)
theorem row5_append (a b:List Item):row5 (a++b)=row5 a++row5 b:=by simp[row5]
theorem trees_append (a b:List Item):trees (a++b)=trees a++trees b:=by simp[trees]
theorem row5_len (L:List Item):(row5 L).length=L.length*5:=by
 induction L with
 | nil=>rfl
 | cons x L ih=>have:row5 (x::L)=cells5 x++row5 L:=rfl;rw[this,List.length_append,ih];simp[cells5];omega
def All (lo:Nat) (w:World) (L:List Item):Prop:=∀ x,x∈L->NodeAt lo w x.1 x.2.1 x.2.2
theorem of_row {lo:Nat} {w:World} {b:Nat}:∀ (ks:List E) (o:Nat),Row lo w b ks o->∃ L,trees L=ks/\All lo w L/\∀ j u,(row5 L)[j]?=some u->w.cell? ⟨b,o+j,none⟩=some u:=by
 intro ks
 induction ks with
 | nil=>intro o _;exact ⟨[],rfl,(fun _ h=>nomatch h),fun j u h=>by simp[row5] at h⟩
 | cons e es ih=>
  intro o h;rw[Row] at h;obtain ⟨⟨vn,vk,c0,c1,c2,c3,c4,hn⟩,hr⟩:=h;obtain ⟨L,h1,h2,h3⟩:=ih _ hr;refine ⟨(e,vn,vk)::L,by simp[trees] at h1 ⊢;exact h1,?_,?_⟩
  ·intro x hx
   rcases List.mem_cons.1 hx with rfl|hx
   ·exact hn
   ·exact h2 x hx
  ·intro j u hj
   have he:row5 ((e,vn,vk)::L)=cells5 (e,vn,vk)++row5 L:=rfl;rw[he] at hj
   match j,hj with
   | 0,hj=>simp[cells5] at hj;subst hj;exact c0
   | 1,hj=>simp[cells5] at hj;subst hj;exact c1
   | 2,hj=>simp[cells5] at hj;subst hj;exact c2
   | 3,hj=>simp[cells5] at hj;subst hj;exact c3
   | 4,hj=>simp[cells5] at hj;subst hj;exact c4
   | j+5,hj=>
    simp[cells5] at hj;have:=h3 j u hj;rw[show o+(j+5)=o+5+j by omega]
    exact this
theorem to_row {lo:Nat} {w:World} {b:Nat}:∀ (L:List Item) (o:Nat),All lo w L->(∀ j u,(row5 L)[j]?=some u->w.cell? ⟨b,o+j,none⟩=some u)->Row lo w b (trees L) o:=by
 intro L
 induction L with
 | nil=>intro o _ _;exact trivial
 | cons x L ih=>
  intro o h1 h2;have he:row5 (x::L)=cells5 x++row5 L:=rfl;rw[he] at h2;show Row lo w b (x.1::trees L) o
  rw[Row];refine ⟨⟨x.2.1,x.2.2,h2 0 _ rfl,h2 1 _ rfl,h2 2 _ rfl,h2 3 _ rfl,h2 4 _ rfl,h1 x (by simp)⟩,ih _ (fun y hy=>h1 y (by simp[hy])) fun j u hj=>?_⟩
  have:=h2 (j+5) u (by simp[cells5];exact hj);rw[show o+5+j=o+(j+5) by omega]
  exact this
def Kids5 (lo:Nat) (w:World) (L:List Item) (v:Value):Prop:=
 All lo w L/\((v=.slice none 0 0/\L=[])\/∃ b o c,v=.slice (some ⟨b,o,none⟩) L.length c/\L.length<=c/\c<=maxLen/\lo<=b/\∀ j u,(row5 L)[j]?=some u->w.cell? ⟨b,o+j,none⟩=some u)
theorem Kids5.nil (lo:Nat) (w:World):Kids5 lo w [] (.slice none 0 0):=⟨(fun _ h=>nomatch h),.inl ⟨rfl,rfl⟩⟩
theorem Kids5.kids {lo:Nat} {w:World} {L:List Item} {v:Value} (h:Kids5 lo w L v):KidsAt lo w (trees L) v:=by
 have hl:(trees L).length=L.length:=by simp[trees]
 rcases h.2 with ⟨rfl,rfl⟩|⟨b,o,c,rfl,m1,m2,hb,hc⟩
 ·exact ⟨none,0,rfl,⟨zL _,Nat.zero_le _⟩,fun h=>absurd h (by simp[trees])⟩
 ·exact ⟨_,c,by rw[hl],⟨by omega,m2⟩,fun _=>⟨b,o,rfl,hb,to_row L o h.1 hc⟩⟩
theorem own_kids {lo:Nat} {w:World} {base:Nat} {L:List Item} {v:Value} (h:w.ownsRow base 27 5 v L.length (row5 L)) (hlo:lo<=base) (ha:All lo w L):Kids5 lo w L v:=by
 refine ⟨ha,?_⟩;have h':=h;obtain ⟨_,⟨rfl,hn⟩|⟨g,cap,cur,rfl,hbg,hg,hnc,hcm,_,_⟩⟩:=h
 ·exact .inl ⟨rfl,List.eq_nil_of_length_eq_zero hn⟩
 ·refine .inr ⟨g,0,cap,rfl,hnc,hcm,by omega,fun j u hj=>?_⟩
  have hjl:j<L.length*5:=by have:=(List.getElem?_eq_some_iff.1 hj).1;rw[row5_len] at this;exact this
  rw[Nat.zero_add,h'.cellAt j hjl];exact hj
theorem one_cell5 (x:Item) (h:∀ u:Value,u=x.2.1\/u=x.2.2->u.oneCell'=true):∀ u:Value,u∈cells5 x->u.oneCell'=true:=by
 intro u hu;simp[cells5] at hu;rcases hu with rfl|rfl|rfl|h1|h1
 ·rfl
 ·rfl
 ·rfl
 ·exact h u (.inl h1)
 ·exact h u (.inr h1)
theorem node_one {lo:Nat} {w:World} {x:Item} (h:NodeAt lo w x.1 x.2.1 x.2.2):∀ u:Value,u∈cells5 x->u.oneCell'=true:=by
 refine one_cell5 x fun u hu=>?_
 rw[zaw] at h;obtain ⟨-,-,-,⟨_,_,e1,_⟩,⟨_,_,e2,_⟩⟩:=h;rcases hu with rfl|rfl
 ·rw[e1];rfl
 ·rw[e2];rfl
theorem zaq {lo:Nat} {w:World} {e:E} {vn vk:Value} (h:NodeAt lo w e vn vk):∃ a n c a' n' c',vn=.slice a n c/\vk=.slice a' n' c':=by rw[zaw] at h;obtain ⟨-,-,-,⟨_,_,e1,_⟩,⟨_,_,e2,_⟩⟩:=h;exact ⟨_,_,_,_,_,_,e1,e2⟩
theorem all_one {lo:Nat} {w:World} {L:List Item} (h:All lo w L):∀ u:Value,u∈row5 L->u.oneCell'=true:=by intro u hu;obtain ⟨x,hx,hu⟩:=List.mem_flatMap.1 hu;exact node_one (h x hx) u hu
theorem five_cells (w:World) (x:Item) (t:TypeId):∀ (j:Nat) (u:Value),(cells5 x)[j]?=some u->(w.alloc (.cells #[.int .i64 x.1.kind,.string x.1.text,.int .i64 x.1.num,x.2.1,x.2.2] t)).cell? ((⟨w.heap.size,0,none⟩:Addr).add j)=some u:=by
 intro j u hj
 match j,hj with
 | 0,hj=>simp[cells5] at hj;subst hj;simp[Addr.add]
 | 1,hj=>simp[cells5] at hj;subst hj;simp[Addr.add]
 | 2,hj=>simp[cells5] at hj;subst hj;simp[Addr.add]
 | 3,hj=>simp[cells5] at hj;subst hj;simp[Addr.add]
 | 4,hj=>simp[cells5] at hj;subst hj;simp[Addr.add]
end Parser
namespace Parser
open Go.RowKit
open Strs Tree Gram
theorem infoE:(Tryz.prog.info? 27).map (fun i=>(i.zero,i.size,i.bytes))=some (some (.agg #[.int .i64 0,.string ByteArray.empty,.int .i64 0,.slice none 0 0,.slice none 0 0]),5,80):=by kernel_rfl
theorem zas (lo:Nat) (w:World):Texts lo w [] (.slice none 0 0):=⟨none,0,rfl,⟨zL _,Nat.zero_le _⟩,(fun _ h=>nomatch h),fun h=>absurd h (by simp)⟩
theorem add_plain (b o k:Nat):(⟨b,o,none⟩:Addr).add k=⟨b,o+k,none⟩:=by unfold Addr.add;split<;>simp_all
theorem lit_own (w:World) (a b:Obj) (e:E) (vn vk:Value):(((w.alloc a).alloc b).alloc (.cells #[.int .i64 e.kind,.string e.text,.int .i64 e.num,vn,vk] 27)).ownsRow (w.heap.size+1+1) 27 5 (.slice (some ⟨w.heap.size+1+1,0,none⟩) 1 1) 1 (row5 [(e,vn,vk)]):=by
 have e1:((w.alloc a).alloc b).heap.size=w.heap.size+1+1:=by simp
 have:=World.ownsRow_lit (base:=w.heap.size+1+1) (e:=27) (size:=5) ((w.alloc a).alloc b) #[.int .i64 e.kind,.string e.text,.int .i64 e.num,vn,vk] 1 (by rw[e1];exact zL _) (by unfold maxLen;omega) rfl;rw[e1] at this;exact this
theorem three_below (w:World) (a b c:Obj):Below w.heap.size w (((w.alloc a).alloc b).alloc c):=(((zB _ _).alloc (zL _) a).alloc (by simp) b).alloc (by simp;omega) _
theorem send_raw {lo:Nat} {w:World} {e:E} {vn vk va:Value} {L:List Item} {s:ByteArray} (hn:NodeAt lo w e vn vk) (hk:Kids5 lo w L va) (hl:L.length<=900):
  Calls Tryz.prog 147 #[.agg #[.int .i64 e.kind,.string e.text,.int .i64 e.num,vn,vk],.string s,va] w fun r w'=>∃ vk',r=.returned (.agg #[.int .i64 6,.string s,.int .i64 0,.slice none 0 0,vk'])/\w'.ownsRow (w.heap.size+1+1) 27 5 vk' (L.length+1) (row5 ((e,vn,vk)::L))/\Below w.heap.size w w':=by
 obtain ⟨i0,hi,hz0,hz1,hz2⟩:=info_parts infoE;have HK:=zH hk;have HN:=zH hn;have h1:=node_one (x:=(e,vn,vk)) hn;have HONE:=zH h1;rcases hk.2 with ⟨rfl,rfl⟩|⟨b,o,c,rfl,m1,m2,hb,hc⟩
 ·clear hk h1 hn
  go_enter Tryz.func147,Tryz.ntmps147;go_wp2_with fail
  refine bodyPost_ret (v:=.agg #[.int .i64 6,.string s,.int .i64 0,.slice none 0 0,.slice (some ⟨w.heap.size+1+1,0,none⟩) 1 1]) (by simp[results,Tryz.results147,go_sem, *]) rfl ⟨_,rfl,?_,three_below _ _ _ _⟩;exact lit_own w _ _ e vn vk
 ·have HC:=zH hc
  have HL:=zH (row5_len L);clear hk h1 hn hc;go_enter Tryz.func147,Tryz.ntmps147;go_wp2_with (at_builtin;go_must (refine wpList_append_own _ rfl _ _ 25 rfl (w.heap.size+1+1) 27 i0 (.agg #[.int .i64 0,.string ByteArray.empty,.int .i64 0,.slice none 0 0,.slice none 0 0]) 5 80 Tryz.underlying25 hi hz0 hz1 hz2 rfl (by decide) _ 1 (row5 [(e,vn,vk)]) rfl (lit_own w _ _ e vn vk) ⟨b,o,none⟩ L.length c (row5 L) rfl HL.out ?c1 ?c2 ?c3 ?c4 ?c5 ?_))
  case c1=>intro j u hj;rw[add_plain];exact cell_keep (three_below _ _ _ _) (HC.out j u hj)
  case c2=>exact all_one HK.out.1
  case c3=>unfold maxLen;omega
  case c4=>omega
  case c5=>simp
  intro v' w4 hown hgr _
  have hz:Zero (w.heap.size+1) w4:=by
   have h0:=zero_new (w.alloc (.cells #[.int .i64 e.kind,.string e.text,.int .i64 e.num,vn,vk] 27)) 27;have e1:(w.alloc (.cells #[.int .i64 e.kind,.string e.text,.int .i64 e.num,vn,vk] 27)).heap.size=w.heap.size+1:=by simp
   rw[e1] at h0;exact (h0.step ((zB _ _).alloc (zL _) _)).same hgr.size (hgr.block _ (by simp) (by simp[Value.ownBlock]))
  have HB:Hid (Below w.heap.size w w4):=zH ((three_below _ _ _ _).grown hgr (by simp;omega) (by simp[Value.ownBlock];omega));obtain ⟨ra,rc,rfl⟩:=Kit.zax hown;have HOWN:=zH hown;clear hown hgr;obtain ⟨hsz,z0,z1,z2,z3,z4,fz⟩:=hz;go_wp2_with fail
  refine bodyPost_ret (v:=.agg #[.int .i64 6,.string s,.int .i64 0,.slice none 0 0,.slice ra (1+L.length) rc]) (by simp[results,Tryz.results147,go_sem, *]) rfl ⟨_,rfl,?_,?_⟩
  ·have ho2:=own_put5 HOWN.out (B:=w.heap.size+1) (by omega) (.int .i64 6) (.string s) (.int .i64 0) (.slice none 0 0) (.slice ra (1+L.length) rc)
   rw[<-row5_append,Nat.add_comm 1 L.length] at ho2;rw[Nat.add_comm 1 L.length];exact ho2
  ·exact zah HB.out (B:=w.heap.size+1) (by omega) _ _ _ _ _
theorem infoX:(Tryz.prog.info? 9).map (fun i=>(i.zero,i.size,i.bytes))=some (some (.string ByteArray.empty),1,16):=by kernel_rfl
theorem strs_cells {w:World} {b o:Nat} {xs:List ByteArray} (h:∀ j (h:j<xs.length),w.cell? ⟨b,o+j,none⟩=some (.string xs[j])):∀ (j:Nat) (u:Value),(xs.map Value.string)[j]?=some u->w.cell? ((⟨b,o,none⟩:Addr).add j)=some u:=by intro j u hj;have hl:=(List.getElem?_eq_some_iff.1 hj).1;have hv:=(List.getElem?_eq_some_iff.1 hj).2;rw[List.length_map] at hl;rw[List.getElem_map] at hv;rw[add_plain,h j hl,hv]
theorem strs_one (xs:List ByteArray):∀ u:Value,u∈xs.map Value.string->u.oneCell'=true:=by intro u hu;obtain ⟨x,_,rfl⟩:=List.mem_map.1 hu;rfl
end Parser
namespace Parser
open Go.RowKit
open Strs Tree Gram
theorem five_cells2 (w:World) (o:Obj) (x:Item) (t:TypeId):∀ (j:Nat) (u:Value),(cells5 x)[j]?=some u->((w.alloc o).alloc (.cells #[.int .i64 x.1.kind,.string x.1.text,.int .i64 x.1.num,x.2.1,x.2.2] t)).cell? ((⟨w.heap.size+1,0,none⟩:Addr).add j)=some u:=by
 have h:=five_cells (w.alloc o) x t;have e:(w.alloc o).heap.size=w.heap.size+1:=by simp
 rw[e] at h;exact h
end Parser
namespace Parser
open Go.RowKit
open Strs Tree Gram
set_option maxRecDepth 10000 in
set_option maxHeartbeats 4000000 in
theorem block_raw {lo : Nat} {w : World} {ps ts : List ByteArray} {ks : List E} {vp vt vk : Value} (hp : TextsN lo w ps vp) (ht : TextsN lo w ts vt) (hk : KidsAt lo w ks vk) (hpl : ps.length <= 800) (htl : ts.length <= 800) (hlo : lo <= w.heap.size) :
    Calls Tryz.prog 124 #[vp, vt, vk] w fun r w' => ∃ vn', r = .returned (.agg #[.int .i64 8, .string ⟨#[]⟩, .int .i64 (ps.length : Int), vn', vk]) /\ Texts lo w' (ps ++ ts) vn' /\ (∀ b, vn'.ownBlock = some b -> w.heap.size <= b) /\ Below w.heap.size w w' := by
  obtain ⟨i0, hi, hz0, hz1, hz2⟩ := info_parts infoX
  have HP := zH hp
  have HT := zH ht
  have HK := zH hk
  obtain ⟨-, pb, po, pc, rfl, pm1, pm2, -, pd⟩ := hp
  obtain ⟨-, tb, tq, tc, rfl, tm1, tm2, -, td⟩ := ht
  obtain ⟨ka, kc, rfl, km, -⟩ := hk
  have PD := zH pd
  have TD := zH td
  clear pd td
  have hlit : ((w.alloc (.cells #[.int .i64 0, .string ⟨#[]⟩, .int .i64 0, .slice none 0 0, .slice none 0 0] 27)).alloc (.cells #[] 9)).ownsRow (w.heap.size + 1) 9 1 (.slice (some ⟨w.heap.size + 1, 0, none⟩) 0 0) 0 ([].map Value.string) := by
    have e1 : (w.alloc (.cells #[.int .i64 0, .string ⟨#[]⟩, .int .i64 0, .slice none 0 0, .slice none 0 0] 27)).heap.size = w.heap.size + 1 := by simp
    have := World.ownsRow_lit (base := w.heap.size + 1) (e := 9) (size := 1) (w.alloc (.cells #[.int .i64 0, .string ⟨#[]⟩, .int .i64 0, .slice none 0 0, .slice none 0 0] 27)) #[] 0 (by rw [e1]; exact zL _) (Nat.zero_le _) rfl
    rw [e1] at this
    exact this
  have hb0 : Below w.heap.size w ((w.alloc (.cells #[.int .i64 0, .string ⟨#[]⟩, .int .i64 0, .slice none 0 0, .slice none 0 0] 27)).alloc (.cells #[] 9)) := ((zB _ _).alloc (zL _) _).alloc (by simp) _
  have hz0' : Zero w.heap.size ((w.alloc (.cells #[.int .i64 0, .string ⟨#[]⟩, .int .i64 0, .slice none 0 0, .slice none 0 0] 27)).alloc (.cells #[] 9)) := (zero_new w _).step ((zB _ _).alloc (zL _) _)
  have HLIT := zH hlit
  have HB0 := zH hb0
  have HZ0 := zH hz0'
  clear hlit hb0 hz0'
  go_enter Tryz.func124, Tryz.ntmps124
  go_wp2_with (at_builtin; go_must (refine wpList_append_own _ rfl _ _ 24 rfl (w.heap.size + 1) 9 i0 (.string ByteArray.empty) 1 16 Tryz.underlying24 hi hz0 hz1 hz2 rfl (by decide) _ _ _ rfl HLIT.out ⟨pb, po, none⟩ ps.length pc (ps.map Value.string) rfl ?c0 ?c1 ?c2 ?c3 ?c4 ?c5 ?_))
  case c0 => simp
  case c1 => exact strs_cells fun j hj => cell_keep HB0.out (PD.out j hj)
  case c2 => exact strs_one _
  case c3 => unfold maxLen; omega
  case c4 => omega
  case c5 => simp
  intro v1 w1 hown hgr _
  have HO1 : Hid (w1.ownsRow (w.heap.size + 1) 9 1 v1 ps.length (ps.map Value.string)) := zH (by simpa using hown)
  have hb1 : Below (w.heap.size + 1) ((w.alloc (.cells #[.int .i64 0, .string ⟨#[]⟩, .int .i64 0, .slice none 0 0, .slice none 0 0] 27)).alloc (.cells #[] 9)) w1 := (zB _ _).grown hgr (by simp) (fun k hk => (HLIT.out.lt k hk).1)
  have HB1 := zH (HB0.out.trans (hb1.mono (by omega)))
  have HZ1 := zH (HZ0.out.low hb1 (by omega))
  have hs1 : w.heap.size + 1 <= w1.heap.size := by have := HZ1.out.size; omega
  clear hown hgr hb1
  go_wp2_with (at_builtin; go_must (refine wpList_append_own _ rfl _ _ 24 rfl (w.heap.size + 1) 9 i0 (.string ByteArray.empty) 1 16 Tryz.underlying24 hi hz0 hz1 hz2 rfl (by decide) _ _ _ rfl HO1.out ⟨tb, tq, none⟩ ts.length tc (ts.map Value.string) rfl ?c0 ?c1 ?c2 ?c3 ?c4 ?c5 ?_))
  case c0 => simp
  case c1 => exact strs_cells fun j hj => cell_keep HB1.out (TD.out j hj)
  case c2 => exact strs_one _
  case c3 => unfold maxLen; omega
  case c4 => omega
  case c5 => exact hs1
  intro v2 w2 hown hgr _
  have hb2 : Below (w.heap.size + 1) w1 w2 := (zB _ _).grown hgr hs1 (fun k hk => (HO1.out.lt k hk).1)
  have HB2 := zH (HB1.out.trans (hb2.mono (by omega)))
  obtain ⟨hsz, z0, z1, z2, z3, z4, fz⟩ := HZ1.out.low hb2 (by omega)
  obtain ⟨ra, rc, rfl⟩ := Kit.zax hown
  have HO2 : Hid (w2.ownsRow (w.heap.size + 1) 9 1 (.slice ra (ps.length + ts.length) rc) (ps ++ ts).length ((ps ++ ts).map Value.string)) := zH (by simpa using hown)
  clear hown hgr hb2
  go_wp2_with fail
  have hbf := zah HB2.out (B := w.heap.size) (zL _) (.int .i64 8) (.string ⟨#[]⟩) (.int .i64 ps.length) (.slice ra (ps.length + ts.length) rc) (.slice ka ks.length kc)
  have hof := own_put5 HO2.out (B := w.heap.size) (by omega) (.int .i64 8) (.string ⟨#[]⟩) (.int .i64 ps.length) (.slice ra (ps.length + ts.length) rc) (.slice ka ks.length kc)
  refine bodyPost_ret (v := .agg #[.int .i64 8, .string ⟨#[]⟩, .int .i64 ps.length, .slice ra (ps.length + ts.length) rc, .slice ka ks.length kc]) (by simp [results, Tryz.results124, go_sem, *]) rfl ⟨_, rfl, ?_, fun b hb => Nat.le_of_succ_le (hof.lt b hb).1, hbf⟩
  refine texts_own hof (by omega) fun x hx => ?_
  rcases List.mem_append.1 hx with h1 | h1
  · exact HP.out.1 x h1
  · exact HT.out.1 x h1
end Parser
namespace Parser
open Go.RowKit
open Strs Tree Gram
end Parser
namespace Parser
open Go.RowKit
open Strs Tree Gram
theorem st_stop {ex:X} {body:List E} {r:R} (h:begins r=false):stLoop ex body r=some (body,r):=by rw[stLoop,h];rfl
theorem st_hat0 {ex:X} {body:List E} {r:R} (h:begins r=true) (h2:mk cHat r=true) (h3:ex r.tail=none):stLoop ex body r=none:=by rw[stLoop,if_pos h,if_pos h2,h3]
theorem st_hat1 {ex:X} {body:List E} {r:R} {e:E} {r1:R} (h:begins r=true) (h2:mk cHat r=true) (h3:ex r.tail=some (e,r1)):stLoop ex body r=some (body++[.mk 9 none_ 0 [] [e]],if mk cDot r1 then r1.tail else r1):=by rw[stLoop,if_pos h,if_pos h2,h3]
theorem st_none {ex:X} {body:List E} {r:R} (h:begins r=true) (h2:mk cHat r=false) (h3:ex r=none):stLoop ex body r=none:=by rw[stLoop,if_pos h,if_neg (by rw[h2];simp),h3]
theorem st_end {ex:X} {body:List E} {r:R} {e:E} {r1:R} (h:begins r=true) (h2:mk cHat r=false) (h3:ex r=some (e,r1)) (h4:mk cDot r1=false):stLoop ex body r=some (body++[e],r1):=by rw[stLoop,if_pos h,if_neg (by rw[h2];simp),h3];simp only;rw[if_neg (by rw[h4];simp)]
theorem st_more {ex:X} (hx:Short ex) {body:List E} {r:R} {e:E} {r1:R} (h:begins r=true) (h2:mk cHat r=false) (h3:ex r=some (e,r1)) (h4:mk cDot r1=true):stLoop ex body r=stLoop ex (body++[e]) r1.tail:=by have hlt:r1.tail.length<r.length:=Nat.lt_of_le_of_lt (tail_le r1) (hx _ _ _ h3);rw[stLoop,if_pos h,if_neg (by rw[h2];simp),h3];simp only;rw[if_pos h4,dif_pos hlt]
end Parser
namespace Parser
open Go.RowKit
open Strs Tree Gram
theorem infoS:(Tryz.prog.info? 9).map (fun i=>(i.zero,i.size,i.bytes))=some (some (.string ByteArray.empty),1,16):=by kernel_rfl
end Parser
namespace Parser
open Go.RowKit
open Strs Tree Gram
theorem par_stop {ps:List ByteArray} {r:R} (h:mk cColon r=false):parLoop ps r=some (ps,r):=by
 match r,h with
 | [],_=>rw[parLoop]
 | [t],h=>rw[parLoop,if_neg (by rw[h];simp)]
 | t::u::r,h=>rw[parLoop,if_neg (by rw[show mk cColon [t]=mk cColon (t::u::r) from rfl,h];simp)]
theorem par_no {ps:List ByteArray} {r:R} (h:mk cColon r=true) (h2:hd 1 r.tail=false):parLoop ps r=none:=by
 match r,h,h2 with
 | [t],h,_=>rw[parLoop,if_pos h]
 | t::u::r,h,h2=>
  rw[parLoop,if_pos (show mk cColon [t]=true from h),if_neg]
  simpa [hd] using h2
theorem par_go {ps:List ByteArray} {r:R} (h:mk cColon r=true) (h2:hd 1 r.tail=true):parLoop ps r=parLoop (ps++[txt r.tail]) r.tail.tail:=by
 match r,h,h2 with
 | [t],_,h2=>cases h2
 | t::u::r,h,h2=>
  rw[parLoop,if_pos (show mk cColon [t]=true from h),if_pos]
  ·rfl
  ·simpa [hd] using h2
end Parser
namespace Parser
open Go.RowKit
open Strs Tree Gram
structure Five (B:Nat) (a b c d e:Value) (wr:World):Prop where
 size:B<wr.heap.size
 z0:wr.cell? ⟨B,0,none⟩=some a
 z1:wr.cell? ⟨B,1,none⟩=some b
 z2:wr.cell? ⟨B,2,none⟩=some c
 z3:wr.cell? ⟨B,3,none⟩=some d
 z4:wr.cell? ⟨B,4,none⟩=some e
 fz:∀ o,wr.frozen? ⟨B,o,none⟩=false
theorem Five.same {B:Nat} {a b c d e:Value} {wr w':World} (h:Five B a b c d e wr) (hs:wr.heap.size<=w'.heap.size) (hb:w'.heap[B]?=wr.heap[B]?):Five B a b c d e w':=by
 have hc:∀ o,w'.cell? ⟨B,o,none⟩=wr.cell? ⟨B,o,none⟩:=fun o=>World.cell?_of_block (a:=⟨B,o,none⟩) hb
 have hf:∀ o,w'.frozen? ⟨B,o,none⟩=wr.frozen? ⟨B,o,none⟩:=fun o=>World.frozen?_of_block (a:=⟨B,o,none⟩) hb
 exact ⟨Nat.lt_of_lt_of_le h.size hs,(hc 0).trans h.z0,(hc 1).trans h.z1,(hc 2).trans h.z2,(hc 3).trans h.z3,(hc 4).trans h.z4,fun o=>(hf o).trans (h.fz o)⟩
theorem Five.low {B base:Nat} {a b c d e:Value} {wr w':World} (h:Five B a b c d e wr) (hb:Below base wr w') (hB:B<base):Five B a b c d e w':=h.same hb.size (hb.block B hB)
theorem Five.step {B:Nat} {a b c d e:Value} {wr w':World} (h:Five B a b c d e wr) (hb:Below wr.heap.size wr w'):Five B a b c d e w':=h.low hb h.size
theorem Five.turn {P:Cst} {B:Nat} {a b c d e:Value} {wr w':World} (h:Five B a b c d e wr) (ht:Turn P wr w') (hB:B≠P.pb):Five B a b c d e w':=h.same ht.size (World.grownBy.block ht B h.size (by simpa using hB))
theorem five_new (w:World) (a b c d e:Value) (T:TypeId):Five w.heap.size a b c d e (w.alloc (.cells #[a,b,c,d,e] T)):=by
 refine ⟨by simp,?_,?_,?_,?_,?_,fun o=>?_⟩
 all_goals go_simp
theorem prim_paren {ex:X} {t:Tok.T} {r:R} (h:t.kind=7) (h2:t.text=cOpen):primary ex (t::r)=match ex r with|none=>none|some (e,r1)=>if mk cClose r1 then some (e,r1.tail) else none:=by
 have:mk cOpen [t]=true:=by simp[mk,h,h2]
 rw[primary,if_neg (by omega),if_neg (by omega),if_neg (by omega),if_neg (by omega),if_pos this];cases ex r<;>rfl
theorem prim_block {ex:X} {t:Tok.T} {r:R} (h:t.kind=7) (h2:t.text=cLeft):primary ex (t::r)=block ex r:=by
 have h0:mk cOpen [t]=false:=by simp[mk,h,h2];decide
 have:mk cLeft [t]=true:=by simp[mk,h,h2]
 rw[primary,if_neg (by omega),if_neg (by omega),if_neg (by omega),if_neg (by omega),if_neg (by rw[h0];simp),if_pos this]
theorem prim_else {ex:X} {t:Tok.T} {r:R} (h1:¬t.kind=1) (h3:¬t.kind=3) (h4:¬t.kind=4) (h5:¬t.kind=5) (h7:t.kind=7->¬t.text=cOpen/\¬t.text=cLeft):primary ex (t::r)=none:=by
 have h0:mk cOpen [t]=false:=by
  by_cases h:t.kind=7
  ·simp[mk,h,(h7 h).1]
  ·simp[mk,h]
 have h2:mk cLeft [t]=false:=by
  by_cases h:t.kind=7
  ·simp[mk,h,(h7 h).2]
  ·simp[mk,h]
 rw[primary,if_neg h1,if_neg h3,if_neg h4,if_neg h5,if_neg (by rw[h0];simp),if_neg (by rw[h2];simp)]
end Parser
namespace Parser
open Go.RowKit
open Strs Tree Gram
end Parser
namespace Parser
open Go.RowKit
open Strs Tree Gram
theorem five_put {B:Nat} {a b c d e a' b' c' d' e':Value} {w:World} (h:Five B a' b' c' d' e' w):Five B a b c d e (put5 w B a b c d e):=by
 obtain ⟨hs,z0,z1,z2,z3,z4,fz⟩:=h;unfold put5;refine ⟨by simpa [World.setCell] using hs,?_,?_,?_,?_,?_,fun o=>?_⟩
 all_goals first|go_simp|(have:=fz o;go_simp)
end Parser
namespace Parser
open Go.RowKit
open Strs Tree Gram
theorem bin_stop {ex:X} {e:E} {s:Bool} {r:R} (h:hd 6 r=false):binLoop ex e s r=some (e,s,r):=by rw[binLoop,if_neg (by rw[h];simp)]
theorem bin_none {ex:X} {e:E} {s:Bool} {r:R} (h:hd 6 r=true) (h2:unary ex r.tail=none):binLoop ex e s r=none:=by rw[binLoop,if_pos h,h2]
theorem bin_go {ex:X} (hx:Short ex) {e a:E} {s s':Bool} {r r1:R} (h:hd 6 r=true) (h2:unary ex r.tail=some (a,s',r1)):binLoop ex e s r=binLoop ex (eSend e (txt r) [a]) true r1:=by have hlt:r1.length<r.length:=Nat.lt_trans (unary_lt hx h2) (hd_lt h);rw[binLoop,if_pos h,h2];simp only;rw[dif_pos hlt]
end Parser
namespace Parser
open Go.RowKit
open Strs Tree Gram
theorem key_stop {ex:X} {s:ByteArray} {xs:List E} {r:R} (h:hd 2 r=false):keyLoop ex s xs r=some (s,xs,r):=by rw[keyLoop,if_neg (by rw[h];simp)]
theorem key_none {ex:X} {s:ByteArray} {xs:List E} {r:R} (h:hd 2 r=true) (h2:binary ex r.tail=none):keyLoop ex s xs r=none:=by rw[keyLoop,if_pos h,h2]
theorem key_go {ex:X} (hx:Short ex) {s:ByteArray} {xs:List E} {a:E} {s':Bool} {r r1:R} (h:hd 2 r=true) (h2:binary ex r.tail=some (a,s',r1)):keyLoop ex s xs r=keyLoop ex (s++txt r) (xs++[a]) r1:=by have hlt:r1.length<r.length:=Nat.lt_trans (binary_lt hx h2) (hd_lt h);rw[keyLoop,if_pos h,h2];simp only;rw[dif_pos hlt]
end Parser
namespace Parser
open Go.RowKit
open Strs Tree Gram
end Parser
namespace Parser
open Go.RowKit
open Strs Tree Gram
def asg (r:R):Bool:=hd 1 r&&mk cGets r.tail
theorem expr_bad {ex:X} {r:R} (h:asg r=false) (h2:binary ex r=none):exprF ex r=none:=by unfold asg at h;rw[exprF,if_neg (by rw[h];simp),h2]
theorem expr_key {ex:X} {r r1:R} {t:E} {s:Bool} (h:asg r=false) (h2:binary ex r=some (t,s,r1)) (h3:keyLoop ex none_ [] r1=none):exprF ex r=none:=by unfold asg at h;rw[exprF,if_neg (by rw[h];simp),h2];simp only;rw[h3]
theorem expr_go {ex:X} {r r1 r2:R} {t:E} {s:Bool} {sel:ByteArray} {L:List E} (h:asg r=false) (h2:binary ex r=some (t,s,r1)) (h3:keyLoop ex none_ [] r1=some (sel,L,r2)):
  exprF ex r=if sel.size=0 then cascade ex t s r2 else cascade ex (eSend t sel L) true r2:=by
 unfold asg at h;rw[exprF,if_neg (by rw[h];simp),h2];simp only;rw[h3]
def Sent (t:E):Prop:=∃ e s args,t=eSend e s args
theorem un_sent:∀ (r:R) (e:E) (s:Bool),(s=true->Sent e)->(unLoop e s r).2.1=true->Sent (unLoop e s r).1
 | [],e,s,h,h2=>h h2
 | t::r,e,s,h,h2=>by
  rw[unLoop] at h2 ⊢
  split at h2
  ·rename_i hk
   rw[if_pos hk];exact un_sent r _ true (fun _=>⟨_,_,_,rfl⟩) h2
  ·rename_i hk
   rw[if_neg hk];exact h h2
theorem unary_sent {ex:X} {r r1:R} {t:E} {s:Bool} (h:unary ex r=some (t,s,r1)) (hs:s=true):Sent t:=by
 unfold unary at h
 split at h
 ·cases h
 ·rename_i e r2 _
  have:=un_sent r2 e false (fun e=>nomatch e)
  injection h with h
  rw[h] at this;exact this hs
theorem bin_sent {ex:X}:∀ (m:Nat) (r:R) (e e':E) (s s':Bool) (r1:R),r.length<=m->(s=true->Sent e)->binLoop ex e s r=some (e',s',r1)->s'=true->Sent e':=by
 intro m
 induction m with
 | zero=>intro r e e' s s' r1 hm hS h hs;have:r=[]:=List.eq_nil_of_length_eq_zero (by omega);subst this;rw[binLoop] at h;simp[hd] at h;obtain ⟨rfl,rfl,-⟩:=h;exact hS hs
 | succ m ih=>
  intro r e e' s s' r1 hm hS h hs;rw[binLoop] at h
  split at h
  ·split at h
   ·cases h
   ·split at h
    ·rename_i hlt
     exact ih _ _ _ _ _ _ (by omega) (fun _=>⟨_,_,_,rfl⟩) h hs
    ·cases h
  ·cases h;exact hS hs
theorem binary_sent {ex:X} {r r1:R} {t:E} (h:binary ex r=some (t,true,r1)):Sent t:=by
 unfold binary at h
 split at h
 ·cases h
 ·rename_i e s r2 hu
  exact bin_sent _ _ _ _ _ _ _ (zL _) (fun hs=>unary_sent hu hs) h rfl
theorem cas_stop {ex:X} {ks:List E} {r:R} (h:mk cSemi r=false):casLoop ex ks r=some (ks,r):=by rw[casLoop,if_neg (by rw[h];simp)]
theorem cas_none {ex:X} {ks:List E} {r:R} (h:mk cSemi r=true) (h2:message ex r.tail=none):casLoop ex ks r=none:=by rw[casLoop,if_pos h,h2]
theorem cas_go {ex:X} (hx:Short ex) {ks:List E} {r r1:R} {m:E} (h:mk cSemi r=true) (h2:message ex r.tail=some (m,r1)):casLoop ex ks r=casLoop ex (ks++[m]) r1:=by have hlt:r1.length<r.length:=Nat.lt_trans (message_lt hx h2) (tail_lt h);rw[casLoop,if_pos h,h2];simp only;rw[dif_pos hlt]
theorem cascade_no {ex:X} {e:E} {s:Bool} {r:R} (h:mk cSemi r=false):cascade ex e s r=some (e,r):=by rw[cascade,if_neg (by rw[h];simp)]
theorem cascade_unsent {ex:X} {e:E} {r:R} (h:mk cSemi r=true):cascade ex e false r=none:=by rw[cascade,if_pos h,if_neg (by simp)]
theorem asg_one {t:Tok.T}:asg [t]=false:=by simp[asg,mk]
theorem asg_two {t u:Tok.T} {r:R}:asg (t::u::r)=(decide (t.kind=1)&&(decide (u.kind=7)&&decide (u.text=cGets))):=rfl
end Parser
namespace Parser
open Go.RowKit
open Strs Tree Gram
theorem zac {w w':World} (h:∃ p:Regrown,w'=Sort.grow (redrawn w p.d) p.os):Below w.heap.size w w':=by obtain ⟨p,rfl⟩:=h;exact below_regrown _ _ _
end Parser
end Go.Proofs.YtbigfeblomfflaaGreatDoor
