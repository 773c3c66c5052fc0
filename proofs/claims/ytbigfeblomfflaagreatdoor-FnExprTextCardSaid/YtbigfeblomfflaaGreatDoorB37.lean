/-
  ParAsg ParOut ParStat
-/
import Derived.Test.YtbigfeblomfflaaGreatDoorB35
set_option maxHeartbeats 8000000
set_option maxRecDepth 10000
namespace Go.Proofs.YtbigfeblomfflaaGreatDoor
namespace ParI
open Go.RowKit
open Strs Tree Gram Placed
open Go.Proofs.YtbigfeblomfflaaGreatDoor.Parser
theorem IS.see2 {P:Cst} {p:Nat} {w:World} (h:IS P p w) {t u:Tok.T} {r:R} (hr:rest P p=t::u::r):∃ b q c,See P p w t (u::r) b q c/\w.cell? ⟨b,q+3,none⟩=some (.int .i64 u.kind)/\w.cell? ⟨b,q+3+1,none⟩=some (.string u.text)/\w.cell? ⟨b,q+3+2,none⟩=some (.int .i64 u.num):=by
 obtain ⟨b,q,c,hs⟩:=h.see hr;obtain ⟨hp,ht,hr1⟩:=rest_cons hr;obtain ⟨hp2,hu,-⟩:=rest_cons hr1;obtain ⟨a,c',h1,h2,h3,h4⟩:=h.c0;obtain ⟨b1,o1,e1,ea⟩:=h4 hp;have hc:=hs.c0;rw[h1,ea] at hc
 injection hc with hc
 injection hc with k1 k2 k3
 cases k1;obtain ⟨b',o',e',hne,d0,d1,d2⟩:=h.tok (p+1) u hu;rw[e1] at e';cases e';rw[show o1+(p+1)*3=o1+p*3+3 by omega] at d0 d1 d2
 exact ⟨_,_,c,hs,d0,d1,d2⟩
theorem startsAssignment_any {P:Cst} {p:Nat} {w:World} (h:IS P p w):
  Calls Tryz.prog 107 #[.pointer (some ⟨P.pb,0,none⟩)] w fun e w'=>e=.returned (.bool (asg (rest P p)))/\Below w.heap.size w w':=by
 have KM:=fun d os=>zH (Calls.regrown_of (w:=w) (d:=d) (os:=os) (mark_any ⟨#[58,61]⟩ _))
 have hfit:=h.fit;generalize hD:asg (rest P p)=D;cases hr:rest P p with
 | nil=>
  rw[hr] at hD;have hD2:D=false:=hD.symm;obtain ⟨a,c,c0⟩:=h.seeNil hr;clear h hr hD;subst hD2;generalize P.pb=pb at *;have k0:=cell_regrown c0;clear c0;go_enter Tryz.func107,Tryz.ntmps107;go_wp2_with fail
  refine wp_region_quiet_below (by kernel_rfl) (by kernel_rfl) ?_
  repeat (go_big_quiet_step ((go_at_call 113;exact (KM _ _).out)))
  refine wpQuiet_nil ?_;intro w2 hw2;have hb2:=zH (zac hw2);clear hw2;go_wp2_with fail
  go_ret;exact ⟨rfl,hb2.out⟩
 | cons t r=>
  cases r with
  | nil=>
   rw[hr,asg_one] at hD;obtain ⟨b,q,c,hs⟩:=h.see hr;have c0:=hs.c0;clear h hr hs;subst hD;generalize P.pb=pb at *;rw[List.length_nil,Nat.zero_add] at c0;have k0:=cell_regrown c0;clear c0;go_enter Tryz.func107,Tryz.ntmps107;go_wp2_with fail
   refine wp_region_quiet_below (by kernel_rfl) (by kernel_rfl) ?_
   repeat (go_big_quiet_step ((go_at_call 113;exact (KM _ _).out)))
   refine wpQuiet_nil ?_;intro w2 hw2;have hb2:=zH (zac hw2);clear hw2;go_wp2_with fail
   go_ret;exact ⟨rfl,hb2.out⟩
  | cons u r=>
   rw[hr,asg_two] at hD;have hfu:Tok.Fine u:=fine_rest h u (by rw[hr];simp);obtain ⟨b,q,c,hs,g0,g1,g2⟩:=h.see2 hr;have c0:=hs.c0;have hroom:=hs.room;have hmost:=hs.most;have k1:=cell_regrown hs.d0;have k2:=cell_regrown g0;have k3:=cell_regrown g1;have k4:=cell_regrown g2;rw[List.length_cons] at c0 hroom;have k0:=cell_regrown c0;have h8:=hs.few;rw[List.length_cons] at h8;clear h hr hs g0 g1 g2 c0 hfit
   generalize r.length=n at *;have b1:decide ((1:Int)<(n:Int)+1+1)=true:=decide_eq_true (by omega);have b0:decide ((0:Int)<(n:Int)+1+1)=true:=decide_eq_true (by omega);unfold maxLen at hmost;generalize P.pb=pb at *;generalize t.kind=tk at *;obtain ⟨uk,ut,un⟩:=u;simp only at k2 k3 k4 hD hfu;by_cases h1:tk=1
   case neg=>
    have e1:(tk==1)=false:=by rw[kind_eq,decide_eq_false h1]
    rw[decide_eq_false h1] at hD;have hD2:D=false:=hD.symm;clear hD h1 hfu;subst hD2;go_enter Tryz.func107,Tryz.ntmps107;go_wp2_with fail
    refine wp_region_quiet_below (by kernel_rfl) (by kernel_rfl) ?_
    repeat (go_big_quiet_step ((go_at_call 113;exact (KM _ _).out)))
    refine wpQuiet_nil ?_;intro w2 hw2;have hb2:=zH (zac hw2);clear hw2;go_wp2_with fail
    go_ret;exact ⟨rfl,hb2.out⟩
   subst h1;by_cases h7:uk=7
   case neg=>
    rw[decide_eq_false h7] at hD;have hD2:D=false:=hD.symm;clear hD hfu;subst hD2;go_enter Tryz.func107,Tryz.ntmps107;go_wp2_with fail
    refine wp_region_quiet_below (by kernel_rfl) (by kernel_rfl) ?_
    repeat (go_big_quiet_step ((go_at_call 113;exact (KM _ _).out)))
    refine wpQuiet_nil ?_;intro w2 hw2;have hb2:=zH (zac hw2);clear hw2;go_wp2_with fail
    go_ret;exact ⟨rfl,hb2.out⟩
   have h0:=hfu.seven h7;simp only at h0;subst h7;subst h0;clear hfu;by_cases hx:ut=cGets
   ·rw[decide_eq_true hx] at hD
    have hD2:D=true:=hD.symm;clear hD;subst hD2;have ht:ut=⟨#[58,61]⟩:=hx;clear hx;subst ht;go_enter Tryz.func107,Tryz.ntmps107;go_wp2_with fail
    refine wp_region_quiet_below (by kernel_rfl) (by kernel_rfl) ?_
    repeat (go_big_quiet_step ((go_at_call 113;exact (KM _ _).out)))
    refine wpQuiet_nil ?_;intro w2 hw2;have hb2:=zH (zac hw2);clear hw2;go_wp2_with fail
    go_ret;exact ⟨rfl,hb2.out⟩
   ·rw[decide_eq_false hx] at hD
    have hD2:D=false:=hD.symm;have ht:¬ut.toList=[58,61]:=fun e=>hx (ByteArray.ext (Array.ext' (by rw[ByteArray.toList_eq] at e;exact e)))
    clear hD hx;subst hD2;go_enter Tryz.func107,Tryz.ntmps107;go_wp2_with fail
    refine wp_region_quiet_below (by kernel_rfl) (by kernel_rfl) ?_
    repeat (go_big_quiet_step ((go_at_call 113;exact (KM _ _).out)))
    refine wpQuiet_nil ?_;intro w2 hw2;have hb2:=zH (zac hw2);clear hw2;go_wp2_with fail
    go_ret;exact ⟨rfl,hb2.out⟩
end ParI
namespace ParI
open Go.RowKit
open Strs Tree Gram Placed
open Go.Proofs.YtbigfeblomfflaaGreatDoor.Parser
def IBack (P:Cst) (w:World) (g:Option (E×R)) (e:Ending) (w':World):Prop:=
 (∃ t q,e=.returned (agg t)/\Own w.heap.size w' t/\IS P q w'/\Turn P w w'/\g=some (toE t,rest P q))\/(Dead e/\Turn P w w'/\g=none)
def XI (n:Nat):Prop:=∀ (P:Cst) (p:Nat) (w:World),IS P p w->(rest P p).length<n->Calls Tryz.prog 48 #[.pointer (some ⟨P.pb,0,none⟩)] w (IBack P w (expr n (rest P p)))
theorem Turn.heap {P:Cst} {w w':World} (h:Turn P w w') {b:Nat} (hb:b<w.heap.size) (hp:b≠P.pb):w'.heap[b]?=w.heap[b]?:=
 World.grownBy.block h b hb (by simp;omega)
theorem own_turnT {P:Cst} {base:Nat} {w w':World} {t:T} (h:Own base w t) (ht:Turn P w w') (hp:P.pb<base):Own base w' t:=
 h.frame fun b hb=>Turn.heap ht (h.lt b hb) (by have:=h.lo b hb;omega)
structure Row (base:Nat) (w:World) (ts:List T) (v:Value):Prop where
 own:w.ownsRow base 27 5 v ts.length (row ts)
 kids:Owns base w ts
 apart:∀ b,b∈blk v->b∉foots ts
theorem Row.nil (base:Nat) (w:World):Row base w [] (.slice none 0 0):=⟨nil_row _ _ _,Owns.nil _ _,fun _ h=>nomatch h⟩
theorem Row.form {base:Nat} {w:World} {ts:List T} {v:Value} (h:Row base w ts v):∃ a c,v=.slice a ts.length c:=Kit.zax h.own
theorem Row.frame {base:Nat} {w w':World} {ts:List T} {v:Value} (h:Row base w ts v) (hk:∀ b,b∈blk v\/b∈foots ts->w'.heap[b]?=w.heap[b]?):Row base w' ts v:=
 ⟨own_frame h.own fun b hb=>hk b (.inl hb),h.kids.frame fun b hb=>hk b (.inr hb),h.apart⟩
theorem Row.lt {base:Nat} {w:World} {ts:List T} {v:Value} (h:Row base w ts v):∀ b,b∈blk v\/b∈foots ts->base<=b/\b<w.heap.size:=by
 intro b hb;rcases hb with hb|hb
 ·exact own_blk h.own b hb
 ·exact ⟨h.kids.lo b hb,h.kids.lt b hb⟩
theorem Row.turn {P:Cst} {base:Nat} {w w':World} {ts:List T} {v:Value} (h:Row base w ts v) (ht:Turn P w w') (hp:P.pb<base):Row base w' ts v:=
 h.frame fun b hb=>Turn.heap ht (h.lt b hb).2 (by have:=(h.lt b hb).1;omega)
theorem Row.below {base:Nat} {w w':World} {ts:List T} {v:Value} (h:Row base w ts v) (hb:Below w.heap.size w w'):Row base w' ts v:=
 h.frame fun b k=>hb.block b (h.lt b k).2
theorem Row.app {base l1:Nat} {wr w':World} {ts:List T} {v v':Value} {t:T} {o:Obj} (h:Row base wr ts v) (ht:Own l1 wr t) (hb:base<=l1) (hl:∀ b,b∈blk v\/b∈foots ts->b<l1)
  (hown:w'.ownsRow base 27 5 v' (ts.length+1) (row ts++row [t])) (hgr:(wr.alloc o).grownBy w' v.ownBlock) (hat:v'.ownBlock=v.ownBlock\/v'.ownBlock=some (wr.heap.size+1)):Row base w' (ts++[t]) v':=by
 have hheap:∀ b,b<wr.heap.size->b∉blk v->w'.heap[b]?=wr.heap[b]?:=fun b hb hne=>by
  have h1:=World.grownBy.block hgr b (by simp;omega) (by intro e;exact hne (by unfold blk;rw[<-e];simp))
  rw[h1];have hba:Below wr.heap.size wr (wr.alloc o):=(zB _ _).alloc (zL _) _;exact hba.block b hb
 have hts:Owns base w' ts:=h.kids.frame fun b hb=>hheap b (h.kids.lt b hb) fun e=>h.apart b e hb
 have htt:Own base w' t:=(ht.frame fun b hb=>hheap b (ht.lt b hb) fun e=>by have:=hl b (.inl e);have:=ht.lo b hb;omega).mono hb
 refine ⟨by rw[row_append,List.length_append];exact hown,hts.append htt.one fun x hx hy=>?_,fun b hb'=>?_⟩
 ·rw[foots,foots,List.append_nil] at hy
  have:=hl x (.inr hx);have:=ht.lo x hy;omega
 ·have hcase:b∈blk v\/b=wr.heap.size+1:=by
   unfold blk at hb' ⊢;rcases hat with e|e
   ·rw[e] at hb';exact .inl hb'
   ·rw[e] at hb';simp at hb';exact .inr hb'
  rw[foots_append,foots,foots,List.append_nil];intro hm;rcases List.mem_append.1 hm with hm|hm
  ·rcases hcase with e|e
   ·exact h.apart b e hm
   ·have:=h.kids.lt b hm;omega
  ·rcases hcase with e|e
   ·have:=hl b (.inl e);have:=ht.lo b hm;omega
   ·have:=ht.lt b hm;omega
theorem one_cell (t:T) (h:∀ u:Value,u=t.vn\/u=t.vk->u.oneCell'=true):∀ u:Value,u∈cells t->u.oneCell'=true:=by
 intro u hu;simp[cells] at hu;rcases hu with rfl|rfl|rfl|h1|h1
 ·rfl
 ·rfl
 ·rfl
 ·exact h u (.inl h1)
 ·exact h u (.inr h1)
theorem own_slice {w:World} {base:Nat} {e:TypeId} {size:Nat} {v:Value} {n:Nat} {xs:List Value} (h:w.ownsRow base e size v n xs):v.oneCell'=true:=by obtain ⟨_,⟨rfl,_⟩|⟨g,cap,cur,rfl,_⟩⟩:=h<;>rfl
theorem good_one {w:World} {t:T} (h:Placed.Good w t):∀ u:Value,u∈cells t->u.oneCell'=true:=by
 have hp:=good_iff.1 h;refine one_cell t fun u hu=>?_
 rcases hu with rfl|rfl
 ·exact own_slice hp.names
 ·exact own_slice hp.kids
theorem goods_one {w:World} {ts:List T} (h:Placed.Goods w ts):∀ u:Value,u∈row ts->u.oneCell'=true:=by intro u hu;obtain ⟨t,ht,hu⟩:=List.mem_flatMap.1 hu;exact good_one (goods_iff.1 h t ht) u hu
theorem good_forms {w:World} {t:T} (h:Placed.Good w t):∃ a c a' c',t.vn=.slice a t.names.length c/\t.vk=.slice a' t.kids.length c':=by have hp:=good_iff.1 h;obtain ⟨a,c,h1⟩:=Kit.zax hp.names;obtain ⟨a',c',h2⟩:=Kit.zax hp.kids;exact ⟨a,c,a',c',h1,h2⟩
theorem tree_cells (w:World) (t:T) (o:TypeId):∀ (j:Nat) (u:Value),(row [t])[j]?=some u->(w.alloc (.cells #[.int .i64 t.kind,.string t.text,.int .i64 t.num,t.vn,t.vk] o)).cell? ((⟨w.heap.size,0,none⟩:Addr).add j)=some u:=by
 intro j u hj
 match j,hj with
 | 0,hj=>simp[row,cells] at hj;subst hj;simp[Addr.add]
 | 1,hj=>simp[row,cells] at hj;subst hj;simp[Addr.add]
 | 2,hj=>simp[row,cells] at hj;subst hj;simp[Addr.add]
 | 3,hj=>simp[row,cells] at hj;subst hj;simp[Addr.add]
 | 4,hj=>simp[row,cells] at hj;subst hj;simp[Addr.add]
theorem tree_cells2 (w:World) (o':Obj) (t:T) (o:TypeId):∀ (j:Nat) (u:Value),(row [t])[j]?=some u->((w.alloc o').alloc (.cells #[.int .i64 t.kind,.string t.text,.int .i64 t.num,t.vn,t.vk] o)).cell? ((⟨w.heap.size+1,0,none⟩:Addr).add j)=some u:=by
 have h:=tree_cells (w.alloc o') t o;have e:(w.alloc o').heap.size=w.heap.size+1:=by simp
 rw[e] at h;exact h
theorem lit_row {base:Nat} {w:World} {t:T} (h:Own base w t) (hlo:base<=w.heap.size):Row base (w.alloc (.cells #[.int .i64 t.kind,.string t.text,.int .i64 t.num,t.vn,t.vk] 27)) [t] (.slice (some ⟨w.heap.size,0,none⟩) 1 1):=by
 have hb:Below w.heap.size w (w.alloc (.cells #[.int .i64 t.kind,.string t.text,.int .i64 t.num,t.vn,t.vk] 27)):=(zB _ _).alloc (zL _) _;have hown:=World.ownsRow_lit (base:=base) (e:=27) (size:=5) w #[.int .i64 t.kind,.string t.text,.int .i64 t.num,t.vn,t.vk] 1 hlo (by unfold maxLen;omega) rfl;refine ⟨hown,(h.below hb).one,fun b hm hf=>?_⟩
 simp[blk,Value.ownBlock] at hm;rw[foots,foots,List.append_nil] at hf;have:=h.lt b hf;omega
theorem Row.node {base:Nat} {w:World} {ts:List T} {v:Value} {k n:Int} {s:ByteArray} (h:Row base w ts v) (hk:(Lit.int .i64 k).wf=true) (hn:(Lit.int .i64 n).wf=true) (hs:s.size<=maxLen):Own base w (.mk k s n [] (.slice none 0 0) v ts):=
 own_node hk hn hs (fun _ h=>nomatch h) (nil_row _ _ _) h.own h.kids (fun _ h=>nomatch h) h.apart
theorem put5_heap (w:World) (B:Nat) (a b c d e:Value) {x:Nat} (h:x≠B):(put5 w B a b c d e).heap[x]?=w.heap[x]?:=by
 have hs:∀ (u:World) (o:Nat) (v:Value),(u.setCell ⟨B,o,none⟩ v).heap[x]?=u.heap[x]?:=fun u o v=>Below.heap_setCell _ _ _ _ (fun e=>h e)
 unfold put5;exact (hs _ _ _).trans ((hs _ _ _).trans ((hs _ _ _).trans ((hs _ _ _).trans (hs _ _ _))))
theorem Own.put5 {base:Nat} {w:World} {t:T} (h:Own base w t) {B:Nat} (hB:B∉foot t) (a b c d e:Value):Own base (Parser.put5 w B a b c d e) t:=
 h.frame fun _ hx=>put5_heap w B a b c d e (fun e=>hB (e▸hx))
end ParI
namespace ParI
open Go.RowKit
open Strs Tree Gram Placed
open Go.Proofs.YtbigfeblomfflaaGreatDoor.Parser
def KBack (P:Cst) (w:World) (g:Option (List E×R)) (e:Ending) (w':World):Prop:=
 (∃ v ts q,e=.returned v/\Row w.heap.size w' ts v/\ts.length<=900/\IS P q w'/\Turn P w w'/\g=some (toEs ts,rest P q))\/(Dead e/\Turn P w w'/\g=none)
theorem mk_dot {P:Cst} {q:Nat} (b:Bool) (h:mk cDot (rest P q)=b):(if mk cDot (rest P q)=true then (rest P q).tail else rest P q)=rest P (if b=true then q+1 else q):=by
 subst h
 split
 ·rw[zak]
 ·rfl
theorem statements_any {n:Nat} (hx:XI n) {P:Cst} {p:Nat} {w:World} (h:IS P p w) (hn:(rest P p).length<n):
  Calls Tryz.prog 176 #[.pointer (some ⟨P.pb,0,none⟩)] w (KBack P w (stLoop (expr n) [] (rest P p))):=by
 obtain ⟨i0,hi,hz0,hz1,hz2⟩:=info_parts infoE;have KB:=fun (w1:World) (q:Nat) (h1:IS P q w1)=>zH (startsExpr_any h1)
 have KS1:=fun (w1:World) (q:Nat) (s:ByteArray) (h1:IS P q w1) (hb:mk s (rest P q)=true)=>zH (skip_yes h1 hb)
 have KS0:=fun (w1:World) (q:Nat) (s:ByteArray) (h1:IS P q w1) (hb:mk s (rest P q)=false)=>zH (skip_no h1 hb)
 have KX:=fun (w1:World) (q:Nat) (h1:IS P q w1) (hl:(rest P q).length<n)=>zH (hx P q w1 h1 hl)
 have HFN:=zH (fun q=>begins_sx (rest P q) fun t ht=>h.fit.fine t (List.mem_of_mem_drop ht))
 have H:=zH h;have HLO:=zH h.lo;have hpbl:=h.size;have h8:=h.fit.fit.len;have hpl:=h.le;have HNL:=zH hn;clear h hn hx;generalize hG:stLoop (expr n) [] (rest P p)=G;have HG:=zH hG;clear hG;generalize hpb:P.pb=pb at *;generalize hN:P.toks.length=N at *;have HPB:=zH hpb;clear hpb;have HN:=zH hN;clear hN;go_enter Tryz.func176,Tryz.ntmps176;go_wp2_with fail
 go_loopw [3] (fun v wr=>∃ (ts:List T) (q:Nat),p<=q/\ts.length<=q/\G=stLoop (expr n) (toEs ts) (rest P q)/\IS P q wr/\Turn P w wr/\Row w.heap.size wr ts v) (fun _ wr=>lft pb wr)
 case atStart=>exact ⟨[],p,zL _,Nat.zero_le _,HG.out.symm,H.out,Turn.refl P w,Row.nil _ _⟩
 case round=>
  obtain ⟨ts,q,hpq,hlen,hgo,hps,htr,hrow⟩:=hrel;have HGO:=zH hgo;clear hgo;have HPS:=zH hps;have hqN:=hps.le;rw[HN.out] at hqN;have hpl2:=hps.lft;rw[HPB.out,HN.out] at hpl2;have hpl3:=zH hpl2;have hgw:w.heap.size<=wr.heap.size:=htr.size;clear hps hpl2;have HTR:=zH htr;clear htr;obtain ⟨ra,rc,rfl⟩:=hrow.form;have HR1:=zH hrow;clear hrow
  have HQN:Hid ((rest P q).length<n):=zH (by have h1:=HNL.out;rw[zar,HN.out] at h1 ⊢;omega)
  have K:=KB wr q HPS.out;cases hb:sx (rest P q) with
  | false=>
   rw[hb] at K;have HBG:Hid (begins (rest P q)=mk cHat (rest P q)):=zH (by rw[HFN.out,hb];rfl);clear hb;go_wp2_with fail
   refine K.out.mono ?_;rintro e w2 ⟨rfl,hb2⟩;have HPS2:=zH (HPS.out.below hb2);have HT2:=zH (HTR.out.below hb2);have HR2:=zH (HR1.out.below hb2);clear hb2 K;cases hh:mk cHat (rest P q) with
   | false=>
    have KS:=KS0 w2 q _ HPS2.out hh;have HG2:Hid (G=some (toEs ts,rest P q)):=zH (by rw[HGO.out,st_stop (by rw[HBG.out,hh])])
    clear hh;go_wp2_with fail
    refine KS.out.mono ?_;rintro e w3 ⟨rfl,hb3⟩;have HPS3:=zH (HPS2.out.below hb3);have HT3:=zH (HT2.out.below hb3);have HR3:=zH (HR2.out.below hb3);clear hb3 KS;go_wp2_with fail
    go_ret;exact .inl ⟨_,ts,q,rfl,HR3.out,by omega,HPS3.out,HT3.out,HG2.out⟩
   | true=>
    have KS:=KS1 w2 q _ HPS2.out hh;have HH:=zH hh;have hq1:=mk_lt' hh;rw[HN.out] at hq1;clear hh;go_wp2_with fail
    refine KS.out.mono ?_;rintro e w3 ⟨rfl,h3,ht3⟩
    have KE:=KX w3 (q+1) h3 (by have h1:=HQN.out;rw[zar,HN.out] at h1 ⊢;omega)
    have HT3:=zH (HT2.out.trans ht3);have HR3:=zH (HR2.out.turn ht3 (by rw[HPB.out];exact hpbl));have HRL:=zH (fun b hb=>(HR3.out.lt b hb).2)
    have hg3:w.heap.size<=w3.heap.size:=HT3.out.size;clear h3 ht3 KS;go_wp2_with fail
    refine KE.out.mono ?_;rintro e w4 (⟨t,q4,rfl,ho4,h4,ht4,hg4⟩|⟨⟨v,rfl⟩,ht4,hg4⟩)
    ·have HB4:Hid (∀ b,mk cDot (rest P q4)=b->G=some (toEs ts++[.mk 9 none_ 0 [] [toE t]],rest P (if b=true then q4+1 else q4))):=zH fun b hb=>by
      rw[HGO.out,st_hat1 (by rw[HBG.out,HH.out]) HH.out (by rw[zak];exact hg4),mk_dot b hb]
     have hba:Below w4.heap.size w4 (w4.alloc (.cells #[.int .i64 t.kind,.string t.text,.int .i64 t.num,t.vn,t.vk] 27)):=(zB _ _).alloc (zL _) _;have HL4:=zH ((lit_row ho4 ht4.size).node (k:=9) (n:=0) (s:=⟨#[]⟩) (by rfl) (by rfl) (Nat.zero_le _));have HPS4:=zH (h4.below hba);have HT4:=zH ((HT3.out.trans ht4).below hba);have HR4:=zH ((HR3.out.turn ht4 (by rw[HPB.out];exact hpbl)).below hba)
     have hg4':w.heap.size<=w4.heap.size:=Nat.le_trans hg3 ht4.size;have hw4:(w4.alloc (.cells #[.int .i64 t.kind,.string t.text,.int .i64 t.num,t.vn,t.vk] 27)).heap.size=w4.heap.size+1:=by simp
     have hq4:=h4.le;rw[HN.out] at hq4;unfold agg;clear h4 ht4 hg4 ho4 hba KE;go_wp2_with (at_builtin;go_must (refine wpList_append_own_at _ rfl _ _ 25 rfl w.heap.size 27 i0 (.agg #[.int .i64 0,.string ByteArray.empty,.int .i64 0,.slice none 0 0,.slice none 0 0]) 5 80 Tryz.underlying25 hi hz0 hz1 hz2 rfl (by decide) _ ts.length (row ts) rfl (HR4.out.below ((zB _ _).alloc (zL _) _)).own ⟨w4.heap.size+1,0,none⟩ 1 1 (row [T.mk 9 ⟨#[]⟩ 0 [] (.slice none 0 0) (.slice (some ⟨w4.heap.size,0,none⟩) 1 1) [t]]) rfl rfl ?c1 ?c2 ?c3 ?c4 ?c5 ?_))
     case c1=>exact tree_cells2 w4 _ (T.mk 9 ⟨#[]⟩ 0 [] (.slice none 0 0) (.slice (some ⟨w4.heap.size,0,none⟩) 1 1) [t]) _
     case c2=>exact goods_one ⟨HL4.out.good,trivial⟩
     case c3=>unfold maxLen;omega
     case c4=>omega
     case c5=>simp;omega
     intro v5 w5 hown hgr hnn hat;have HR5:=zH (HR4.out.app HL4.out hg3 HRL.out hown hgr (by rw[hw4];exact hat));have hlow:=app_low (base:=w.heap.size) (by rw[hw4];omega) HR4.out.own hgr;have HPS5:=zH (HPS4.out.low hlow HLO.out);have HT5:=zH (HT4.out.low hlow);clear hown hgr hnn hat hlow;go_wp2_with fail
     cases hdot:mk cDot (rest P q4) with
     | true=>
      have KD:=KS1 w5 q4 _ HPS5.out hdot;refine KD.out.mono ?_;rintro e w6 ⟨rfl,h6,ht6⟩;have HPS6:=zH h6;have HT6:=zH (HT5.out.trans ht6);have HR6:=zH (HR5.out.turn ht6 (by rw[HPB.out];exact hpbl));have HG2:=zH (HB4.out true hdot);clear h6 ht6 KD hdot;go_wp2_with fail
      go_ret;exact .inl ⟨_,_,q4+1,rfl,HR6.out,by simp;omega,HPS6.out,HT6.out,by rw[HG2.out,toEs_append];rfl⟩
     | false=>
      have KD:=KS0 w5 q4 _ HPS5.out hdot;refine KD.out.mono ?_;rintro e w6 ⟨rfl,hb6⟩;have HPS6:=zH (HPS5.out.below hb6);have HT6:=zH (HT5.out.below hb6);have HR6:=zH (HR5.out.below hb6);have HG2:=zH (HB4.out false hdot);clear hb6 KD hdot;go_wp2_with fail
      go_ret;exact .inl ⟨_,_,q4,rfl,HR6.out,by simp;omega,HPS6.out,HT6.out,by rw[HG2.out,toEs_append];rfl⟩
    ·have HG2:Hid (G=none):=zH (by rw[HGO.out,st_hat0 (by rw[HBG.out,HH.out]) HH.out (by rw[zak];exact hg4)])
     have HT4:=zH (HT3.out.trans ht4);clear ht4 hg4 KE;go_wp2_with fail
     exact ⟨rfl,.inr ⟨⟨_,rfl⟩,HT4.out,HG2.out⟩⟩
  | true=>
   rw[hb] at K;have HBG:Hid (begins (rest P q)=true/\mk cHat (rest P q)=false):=zH ⟨by rw[HFN.out,hb];rfl,sx_hat _ hb⟩
   clear hb;go_wp2_with fail
   refine K.out.mono ?_;rintro e w3 ⟨rfl,hb2⟩;have HT3:=zH (HTR.out.below hb2);have HR3:=zH (HR1.out.below hb2);have HRL:=zH (fun b hb=>(HR3.out.lt b hb).2)
   have hg3:w.heap.size<=w3.heap.size:=HT3.out.size;have KE:=KX w3 q (HPS.out.below hb2) HQN.out;clear hb2 K;go_wp2_with fail
   refine KE.out.mono ?_;rintro e w4 (⟨t,q4,rfl,ho4,h4,ht4,hg4⟩|⟨⟨v,rfl⟩,ht4,hg4⟩)
   ·have HO4:=zH ho4
    have HPS4:=zH h4;have HT4:=zH (HT3.out.trans ht4);have HR4:=zH (HR3.out.turn ht4 (by rw[HPB.out];exact hpbl));have hg4':w.heap.size<=w4.heap.size:=Nat.le_trans hg3 ht4.size;have HE4:=zH hg4
    have HQ4:Hid (q<q4/\q4<=N):=zH (by have h1:=zat n _ _ _ hg4;have h2:=h4.le;rw[zar,zar,HN.out] at h1;rw[HN.out] at h2;omega)
    obtain ⟨hq4,hq5⟩:=HQ4.out;unfold agg;clear h4 ht4 hg4 ho4 KE;go_wp2_with (at_builtin;go_must (refine wpList_append_own_at _ rfl _ _ 25 rfl w.heap.size 27 i0 (.agg #[.int .i64 0,.string ByteArray.empty,.int .i64 0,.slice none 0 0,.slice none 0 0]) 5 80 Tryz.underlying25 hi hz0 hz1 hz2 rfl (by decide) _ ts.length (row ts) rfl (HR4.out.below ((zB _ _).alloc (zL _) _)).own ⟨w4.heap.size,0,none⟩ 1 1 (row [t]) rfl rfl ?c1 ?c2 ?c3 ?c4 ?c5 ?_))
    case c1=>exact tree_cells w4 t _
    case c2=>exact goods_one ⟨HO4.out.good,trivial⟩
    case c3=>unfold maxLen;omega
    case c4=>omega
    case c5=>simp;omega
    intro v5 w5 hown hgr hnn hat;have HR5:=zH (HR4.out.app HO4.out hg3 HRL.out hown hgr hat);have hlow:=app_low (base:=w.heap.size) hg4' HR4.out.own hgr;have HPS5:=zH (HPS4.out.low hlow HLO.out);have HT5:=zH (HT4.out.low hlow);clear hown hgr hnn hat hlow;go_wp2_with fail
    cases hdot:mk cDot (rest P q4) with
    | true=>
     have KD:=KS1 w5 q4 _ HPS5.out hdot;refine KD.out.mono ?_;rintro e w6 ⟨rfl,h6,ht6⟩;have HPS6:=zH h6;have HT6:=zH (HT5.out.trans ht6);have HR6:=zH (HR5.out.turn ht6 (by rw[HPB.out];exact hpbl));have HG2:Hid (G=stLoop (expr n) (toEs (ts++[t])) (rest P (q4+1))):=zH (by rw[HGO.out,st_more (zat n) HBG.out.1 HBG.out.2 HE4.out hdot,zak,toEs_append];rfl)
     have hq6:=mk_lt' hdot;rw[HN.out] at hq6;clear h6 ht6 KD hdot;go_wp2_with fail
     go_roundw
     case rel=>exact ⟨ts++[t],q4+1,by omega,by simp;omega,HG2.out,HPS6.out,HT6.out,HR6.out⟩
     case measure=>have h1:=HPS6.out.lft;rw[HPB.out,HN.out] at h1;rw[h1,hpl3.out];omega
    | false=>
     have KD:=KS0 w5 q4 _ HPS5.out hdot;refine KD.out.mono ?_;rintro e w6 ⟨rfl,hb6⟩;have HPS6:=zH (HPS5.out.below hb6);have HT6:=zH (HT5.out.below hb6);have HR6:=zH (HR5.out.below hb6);have HG2:Hid (G=some (toEs ts++[toE t],rest P q4)):=zH (by rw[HGO.out,st_end HBG.out.1 HBG.out.2 HE4.out hdot]);clear hb6 KD hdot;go_wp2_with fail
     go_ret;exact .inl ⟨_,ts++[t],q4,rfl,HR6.out,by simp;omega,HPS6.out,HT6.out,by rw[HG2.out,toEs_append];rfl⟩
   ·have HG2:Hid (G=none):=zH (by rw[HGO.out,st_none HBG.out.1 HBG.out.2 hg4])
    have HT4:=zH (HT3.out.trans ht4);clear ht4 hg4 KE;go_wp2_with fail
    exact ⟨rfl,.inr ⟨⟨_,rfl⟩,HT4.out,HG2.out⟩⟩
end ParI
end Go.Proofs.YtbigfeblomfflaaGreatDoor
