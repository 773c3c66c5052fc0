/-
  ParAsg ParOut ParStat ParBlock ParPrim
-/
import Derived.Test.YtlmhgeanknhcfaaGreatDoorB24
import Derived.Test.YtlmhgeanknhcfaaGreatDoorB7
set_option maxHeartbeats 8000000
set_option maxRecDepth 10000
namespace Go.Proofs.YtlmhgeanknhcfaaGreatDoor
namespace ParI
open Go.RowKit
open Strs Tree Gram Placed
open Go.Proofs.YtlmhgeanknhcfaaGreatDoor.Parser
theorem IS.zvi {P:Cst} {p:Nat} {w:World} (h:IS P p w) {t u:Tok.T} {r:R} (hr:rest P p=t::u::r):∃ b q c,See P p w t (u::r) b q c/\w.cell? ⟨b,q+3,none⟩=some (.int .i64 u.kind)/\w.cell? ⟨b,q+3+1,none⟩=some (.string u.text)/\w.cell? ⟨b,q+3+2,none⟩=some (.int .i64 u.num):=by
 obtain ⟨b,q,c,hs⟩:=h.see hr;obtain ⟨hp,ht,hr1⟩:=zb8 hr;obtain ⟨hp2,hu,-⟩:=zb8 hr1;obtain ⟨a,c',h1,h2,h3,h4⟩:=h.c0;obtain ⟨b1,o1,e1,ea⟩:=h4 hp;have hc:=hs.c0;rw[h1,ea] at hc
 injection hc with hc
 injection hc with k1 k2 k3
 cases k1;obtain ⟨b',o',e',hne,d0,d1,d2⟩:=h.tok (p+1) u hu;rw[e1] at e';cases e';rw[show o1+(p+1)*3=o1+p*3+3 by omega] at d0 d1 d2
 exact ⟨_,_,c,hs,d0,d1,d2⟩
theorem zgl {P:Cst} {p:Nat} {w:World} (h:IS P p w):
  Calls Tryz.prog 73 #[.pointer (some ⟨P.pb,0,none⟩)] w fun e w'=>e=.returned (.bool (asg (rest P p)))/\Below w.heap.size w w':=by
 have KM:=fun d os=>zH (Calls.regrown_of (w:=w) (d:=d) (os:=os) (zcv ⟨#[58,61]⟩ _))
 have hfit:=h.fit;generalize hD:asg (rest P p)=D;cases hr:rest P p with
 | nil=>
  rw[hr] at hD;have hD2:D=false:=hD.symm;obtain ⟨a,c,c0⟩:=h.yah hr;clear h hr hD;subst hD2;generalize P.pb=pb at *;have k0:=cell_regrown c0;clear c0;go_enter Tryz.func73,Tryz.ntmps73;go_wp2_with fail
  refine wp_region_quiet_below (by kernel_rfl) (by kernel_rfl) ?_
  repeat (go_big_quiet_step ((go_at_call 79;exact (KM _ _).out)))
  refine wpQuiet_nil ?_;intro w2 hw2;have hb2:=zH (zaq hw2);clear hw2;go_wp2_with fail
  go_ret;exact ⟨rfl,hb2.out⟩
 | cons t r=>
  cases r with
  | nil=>
   rw[hr,z3d] at hD;obtain ⟨b,q,c,hs⟩:=h.see hr;have c0:=hs.c0;clear h hr hs;subst hD;generalize P.pb=pb at *;rw[List.length_nil,Nat.zero_add] at c0;have k0:=cell_regrown c0;clear c0;go_enter Tryz.func73,Tryz.ntmps73;go_wp2_with fail
   refine wp_region_quiet_below (by kernel_rfl) (by kernel_rfl) ?_
   repeat (go_big_quiet_step ((go_at_call 79;exact (KM _ _).out)))
   refine wpQuiet_nil ?_;intro w2 hw2;have hb2:=zH (zaq hw2);clear hw2;go_wp2_with fail
   go_ret;exact ⟨rfl,hb2.out⟩
  | cons u r=>
   rw[hr,z6p] at hD;have hfu:Tok.zix u:=zmh h u (by rw[hr];simp);obtain ⟨b,q,c,hs,g0,g1,g2⟩:=h.zvi hr;have c0:=hs.c0;have hroom:=hs.room;have hmost:=hs.most;have k1:=cell_regrown hs.d0;have k2:=cell_regrown g0;have k3:=cell_regrown g1;have k4:=cell_regrown g2;rw[List.length_cons] at c0 hroom;have k0:=cell_regrown c0;have h8:=hs.few;rw[List.length_cons] at h8;clear h hr hs g0 g1 g2 c0 hfit
   generalize r.length=n at *;have b1:decide ((1:Int)<(n:Int)+1+1)=true:=decide_eq_true (by omega);have b0:decide ((0:Int)<(n:Int)+1+1)=true:=decide_eq_true (by omega);unfold maxLen at hmost;generalize P.pb=pb at *;generalize t.kind=tk at *;obtain ⟨uk,ut,un⟩:=u;simp only at k2 k3 k4 hD hfu;by_cases h1:tk=1
   case neg=>
    have e1:(tk==1)=false:=by rw[zen,decide_eq_false h1]
    rw[decide_eq_false h1] at hD;have hD2:D=false:=hD.symm;clear hD h1 hfu;subst hD2;go_enter Tryz.func73,Tryz.ntmps73;go_wp2_with fail
    refine wp_region_quiet_below (by kernel_rfl) (by kernel_rfl) ?_
    repeat (go_big_quiet_step ((go_at_call 79;exact (KM _ _).out)))
    refine wpQuiet_nil ?_;intro w2 hw2;have hb2:=zH (zaq hw2);clear hw2;go_wp2_with fail
    go_ret;exact ⟨rfl,hb2.out⟩
   subst h1;by_cases h7:uk=7
   case neg=>
    rw[decide_eq_false h7] at hD;have hD2:D=false:=hD.symm;clear hD hfu;subst hD2;go_enter Tryz.func73,Tryz.ntmps73;go_wp2_with fail
    refine wp_region_quiet_below (by kernel_rfl) (by kernel_rfl) ?_
    repeat (go_big_quiet_step ((go_at_call 79;exact (KM _ _).out)))
    refine wpQuiet_nil ?_;intro w2 hw2;have hb2:=zH (zaq hw2);clear hw2;go_wp2_with fail
    go_ret;exact ⟨rfl,hb2.out⟩
   have h0:=hfu.seven h7;simp only at h0;subst h7;subst h0;clear hfu;by_cases hx:ut=zuh
   ·rw[decide_eq_true hx] at hD
    have hD2:D=true:=hD.symm;clear hD;subst hD2;have ht:ut=⟨#[58,61]⟩:=hx;clear hx;subst ht;go_enter Tryz.func73,Tryz.ntmps73;go_wp2_with fail
    refine wp_region_quiet_below (by kernel_rfl) (by kernel_rfl) ?_
    repeat (go_big_quiet_step ((go_at_call 79;exact (KM _ _).out)))
    refine wpQuiet_nil ?_;intro w2 hw2;have hb2:=zH (zaq hw2);clear hw2;go_wp2_with fail
    go_ret;exact ⟨rfl,hb2.out⟩
   ·rw[decide_eq_false hx] at hD
    have hD2:D=false:=hD.symm;have ht:¬ut.toList=[58,61]:=fun e=>hx (ByteArray.ext (Array.ext' (by rw[ByteArray.toList_eq] at e;exact e)))
    clear hD hx;subst hD2;go_enter Tryz.func73,Tryz.ntmps73;go_wp2_with fail
    refine wp_region_quiet_below (by kernel_rfl) (by kernel_rfl) ?_
    repeat (go_big_quiet_step ((go_at_call 79;exact (KM _ _).out)))
    refine wpQuiet_nil ?_;intro w2 hw2;have hb2:=zH (zaq hw2);clear hw2;go_wp2_with fail
    go_ret;exact ⟨rfl,hb2.out⟩
end ParI
namespace ParI
open Go.RowKit
open Strs Tree Gram Placed
open Go.Proofs.YtlmhgeanknhcfaaGreatDoor.Parser
def zof (P:Cst) (w:World) (g:Option (E×R)) (e:Ending) (w':World):Prop:=
 (∃ t q,e=.returned (agg t)/\Own w.heap.size w' t/\IS P q w'/\za2 P w w'/\g=some (toE t,rest P q))\/(zsr e/\za2 P w w'/\g=none)
def XI (n:Nat):Prop:=∀ (P:Cst) (p:Nat) (w:World),IS P p w->(rest P p).length<n->Calls Tryz.prog 31 #[.pointer (some ⟨P.pb,0,none⟩)] w (zof P w (expr n (rest P p)))
theorem za2.heap {P:Cst} {w w':World} (h:za2 P w w') {b:Nat} (hb:b<w.heap.size) (hp:b≠P.pb):w'.heap[b]?=w.heap[b]?:=
 World.grownBy.block h b hb (by simp;omega)
theorem zpx {P:Cst} {base:Nat} {w w':World} {t:T} (h:Own base w t) (ht:za2 P w w') (hp:P.pb<base):Own base w' t:=
 h.frame fun b hb=>za2.heap ht (h.lt b hb) (by have:=h.lo b hb;omega)
structure Row (base:Nat) (w:World) (ts:List T) (v:Value):Prop where
 own:w.ownsRow base 25 5 v ts.length (row ts)
 kids:zmr base w ts
 apart:∀ b,b∈blk v->b∉zah ts
theorem Row.nil (base:Nat) (w:World):Row base w [] (.slice none 0 0):=⟨zg0 _ _ _,zmr.nil _ _,fun _ h=>nomatch h⟩
theorem Row.form {base:Nat} {w:World} {ts:List T} {v:Value} (h:Row base w ts v):∃ a c,v=.slice a ts.length c:=Kit.za5 h.own
theorem Row.frame {base:Nat} {w w':World} {ts:List T} {v:Value} (h:Row base w ts v) (hk:∀ b,b∈blk v\/b∈zah ts->w'.heap[b]?=w.heap[b]?):Row base w' ts v:=
 ⟨zd0 h.own fun b hb=>hk b (.inl hb),h.kids.frame fun b hb=>hk b (.inr hb),h.apart⟩
theorem Row.lt {base:Nat} {w:World} {ts:List T} {v:Value} (h:Row base w ts v):∀ b,b∈blk v\/b∈zah ts->base<=b/\b<w.heap.size:=by
 intro b hb;rcases hb with hb|hb
 ·exact zdb h.own b hb
 ·exact ⟨h.kids.lo b hb,h.kids.lt b hb⟩
theorem Row.turn {P:Cst} {base:Nat} {w w':World} {ts:List T} {v:Value} (h:Row base w ts v) (ht:za2 P w w') (hp:P.pb<base):Row base w' ts v:=
 h.frame fun b hb=>za2.heap ht (h.lt b hb).2 (by have:=(h.lt b hb).1;omega)
theorem Row.below {base:Nat} {w w':World} {ts:List T} {v:Value} (h:Row base w ts v) (hb:Below w.heap.size w w'):Row base w' ts v:=
 h.frame fun b k=>hb.block b (h.lt b k).2
theorem Row.app {base l1:Nat} {wr w':World} {ts:List T} {v v':Value} {t:T} {o:Obj} (h:Row base wr ts v) (ht:Own l1 wr t) (hb:base<=l1) (hl:∀ b,b∈blk v\/b∈zah ts->b<l1)
  (hown:w'.ownsRow base 25 5 v' (ts.length+1) (row ts++row [t])) (hgr:(wr.alloc o).grownBy w' v.ownBlock) (hat:v'.ownBlock=v.ownBlock\/v'.ownBlock=some (wr.heap.size+1)):Row base w' (ts++[t]) v':=by
 have hheap:∀ b,b<wr.heap.size->b∉blk v->w'.heap[b]?=wr.heap[b]?:=fun b hb hne=>by
  have h1:=World.grownBy.block hgr b (by simp;omega) (by intro e;exact hne (by unfold blk;rw[<-e];simp))
  rw[h1];have hba:Below wr.heap.size wr (wr.alloc o):=(zB _ _).alloc (zL _) _;exact hba.block b hb
 have hts:zmr base w' ts:=h.kids.frame fun b hb=>hheap b (h.kids.lt b hb) fun e=>h.apart b e hb
 have htt:Own base w' t:=(ht.frame fun b hb=>hheap b (ht.lt b hb) fun e=>by have:=hl b (.inl e);have:=ht.lo b hb;omega).mono hb
 refine ⟨by rw[zfr,List.length_append];exact hown,hts.append htt.one fun x hx hy=>?_,fun b hb'=>?_⟩
 ·rw[zah,zah,List.append_nil] at hy
  have:=hl x (.inr hx);have:=ht.lo x hy;omega
 ·have hcase:b∈blk v\/b=wr.heap.size+1:=by
   unfold blk at hb' ⊢;rcases hat with e|e
   ·rw[e] at hb';exact .inl hb'
   ·rw[e] at hb';simp at hb';exact .inr hb'
  rw[zan,zah,zah,List.append_nil];intro hm;rcases List.mem_append.1 hm with hm|hm
  ·rcases hcase with e|e
   ·exact h.apart b e hm
   ·have:=h.kids.lt b hm;omega
  ·rcases hcase with e|e
   ·have:=hl b (.inl e);have:=ht.lo b hm;omega
   ·have:=ht.lt b hm;omega
theorem one_cell (t:T) (h:∀ u:Value,u=t.vn\/u=t.vk->u.oneCell'=true):∀ u:Value,u∈cells t->u.oneCell'=true:=by
 intro u hu;simp[cells] at hu;rcases hu with rfl|rfl|rfl|h1|h1
 ·rfl
 ·rfl
 ·rfl
 ·exact h u (.inl h1)
 ·exact h u (.inr h1)
theorem zte {w:World} {base:Nat} {e:TypeId} {size:Nat} {v:Value} {n:Nat} {xs:List Value} (h:w.ownsRow base e size v n xs):v.oneCell'=true:=by obtain ⟨_,⟨rfl,_⟩|⟨g,cap,cur,rfl,_⟩⟩:=h<;>rfl
theorem z7q {w:World} {t:T} (h:Placed.Good w t):∀ u:Value,u∈cells t->u.oneCell'=true:=by
 have hp:=zfy.1 h;refine one_cell t fun u hu=>?_
 rcases hu with rfl|rfl
 ·exact zte hp.names
 ·exact zte hp.kids
theorem zhw {w:World} {ts:List T} (h:Placed.zb2 w ts):∀ u:Value,u∈row ts->u.oneCell'=true:=by intro u hu;obtain ⟨t,ht,hu⟩:=List.mem_flatMap.1 hu;exact z7q (zam.1 h t ht) u hu
theorem zbm {w:World} {t:T} (h:Placed.Good w t):∃ a c a' c',t.vn=.slice a t.names.length c/\t.vk=.slice a' t.kids.length c':=by have hp:=zfy.1 h;obtain ⟨a,c,h1⟩:=Kit.za5 hp.names;obtain ⟨a',c',h2⟩:=Kit.za5 hp.kids;exact ⟨a,c,a',c',h1,h2⟩
theorem zmo (w:World) (t:T) (o:TypeId):∀ (j:Nat) (u:Value),(row [t])[j]?=some u->(w.alloc (.cells #[.int .i64 t.kind,.string t.text,.int .i64 t.num,t.vn,t.vk] o)).cell? ((⟨w.heap.size,0,none⟩:Addr).add j)=some u:=by
 intro j u hj
 match j,hj with
 | 0,hj=>simp[row,cells] at hj;subst hj;simp[Addr.add]
 | 1,hj=>simp[row,cells] at hj;subst hj;simp[Addr.add]
 | 2,hj=>simp[row,cells] at hj;subst hj;simp[Addr.add]
 | 3,hj=>simp[row,cells] at hj;subst hj;simp[Addr.add]
 | 4,hj=>simp[row,cells] at hj;subst hj;simp[Addr.add]
theorem zxf (w:World) (o':Obj) (t:T) (o:TypeId):∀ (j:Nat) (u:Value),(row [t])[j]?=some u->((w.alloc o').alloc (.cells #[.int .i64 t.kind,.string t.text,.int .i64 t.num,t.vn,t.vk] o)).cell? ((⟨w.heap.size+1,0,none⟩:Addr).add j)=some u:=by
 have h:=zmo (w.alloc o') t o;have e:(w.alloc o').heap.size=w.heap.size+1:=by simp
 rw[e] at h;exact h
theorem zr9 {base:Nat} {w:World} {t:T} (h:Own base w t) (hlo:base<=w.heap.size):Row base (w.alloc (.cells #[.int .i64 t.kind,.string t.text,.int .i64 t.num,t.vn,t.vk] 25)) [t] (.slice (some ⟨w.heap.size,0,none⟩) 1 1):=by
 have hb:Below w.heap.size w (w.alloc (.cells #[.int .i64 t.kind,.string t.text,.int .i64 t.num,t.vn,t.vk] 25)):=(zB _ _).alloc (zL _) _;have hown:=World.ownsRow_lit (base:=base) (e:=25) (size:=5) w #[.int .i64 t.kind,.string t.text,.int .i64 t.num,t.vn,t.vk] 1 hlo (by unfold maxLen;omega) rfl;refine ⟨hown,(h.below hb).one,fun b hm hf=>?_⟩
 simp[blk,Value.ownBlock] at hm;rw[zah,zah,List.append_nil] at hf;have:=h.lt b hf;omega
theorem Row.node {base:Nat} {w:World} {ts:List T} {v:Value} {k n:Int} {s:ByteArray} (h:Row base w ts v) (hk:(Lit.int .i64 k).wf=true) (hn:(Lit.int .i64 n).wf=true) (hs:s.size<=maxLen):Own base w (.mk k s n [] (.slice none 0 0) v ts):=
 zjn hk hn hs (fun _ h=>nomatch h) (zg0 _ _ _) h.own h.kids (fun _ h=>nomatch h) h.apart
theorem zf9 (w:World) (B:Nat) (a b c d e:Value) {x:Nat} (h:x≠B):(zgq w B a b c d e).heap[x]?=w.heap[x]?:=by
 have hs:∀ (u:World) (o:Nat) (v:Value),(u.setCell ⟨B,o,none⟩ v).heap[x]?=u.heap[x]?:=fun u o v=>Below.heap_setCell _ _ _ _ (fun e=>h e)
 unfold zgq;exact (hs _ _ _).trans ((hs _ _ _).trans ((hs _ _ _).trans ((hs _ _ _).trans (hs _ _ _))))
theorem Own.zgq {base:Nat} {w:World} {t:T} (h:Own base w t) {B:Nat} (hB:B∉foot t) (a b c d e:Value):Own base (Parser.zgq w B a b c d e) t:=
 h.frame fun _ hx=>zf9 w B a b c d e (fun e=>hB (e▸hx))
end ParI
namespace ParI
open Go.RowKit
open Strs Tree Gram Placed
open Go.Proofs.YtlmhgeanknhcfaaGreatDoor.Parser
def yff (P:Cst) (w:World) (g:Option (List E×R)) (e:Ending) (w':World):Prop:=
 (∃ v ts q,e=.returned v/\Row w.heap.size w' ts v/\ts.length<=900/\IS P q w'/\za2 P w w'/\g=some (zg2 ts,rest P q))\/(zsr e/\za2 P w w'/\g=none)
theorem ydv {P:Cst} {q:Nat} (b:Bool) (h:mk zvj (rest P q)=b):(if mk zvj (rest P q)=true then (rest P q).tail else rest P q)=rest P (if b=true then q+1 else q):=by
 subst h
 split
 ·rw[zab]
 ·rfl
theorem zke {n:Nat} (hx:XI n) {P:Cst} {p:Nat} {w:World} (h:IS P p w) (hn:(rest P p).length<n):
  Calls Tryz.prog 144 #[.pointer (some ⟨P.pb,0,none⟩)] w (yff P w (zby (expr n) [] (rest P p))):=by
 obtain ⟨i0,hi,hz0,hz1,hz2⟩:=info_parts zp6;have KB:=fun (w1:World) (q:Nat) (h1:IS P q w1)=>zH (zp4 h1)
 have KS1:=fun (w1:World) (q:Nat) (s:ByteArray) (h1:IS P q w1) (hb:mk s (rest P q)=true)=>zH (zj2 h1 hb)
 have KS0:=fun (w1:World) (q:Nat) (s:ByteArray) (h1:IS P q w1) (hb:mk s (rest P q)=false)=>zH (zms h1 hb)
 have KX:=fun (w1:World) (q:Nat) (h1:IS P q w1) (hl:(rest P q).length<n)=>zH (hx P q w1 h1 hl)
 have HFN:=zH (fun q=>z6k (rest P q) fun t ht=>h.fit.fine t (List.mem_of_mem_drop ht))
 have H:=zH h;have HLO:=zH h.lo;have hpbl:=h.size;have h8:=h.fit.fit.len;have hpl:=h.le;have HNL:=zH hn;clear h hn hx;generalize hG:zby (expr n) [] (rest P p)=G;have HG:=zH hG;clear hG;generalize hpb:P.pb=pb at *;generalize hN:P.toks.length=N at *;have HPB:=zH hpb;clear hpb;have HN:=zH hN;clear hN;go_enter Tryz.func144,Tryz.ntmps144;go_wp2_with fail
 go_loopw [3] (fun v wr=>∃ (ts:List T) (q:Nat),p<=q/\ts.length<=q/\G=zby (expr n) (zg2 ts) (rest P q)/\IS P q wr/\za2 P w wr/\Row w.heap.size wr ts v) (fun _ wr=>lft pb wr)
 case atStart=>exact ⟨[],p,zL _,Nat.zero_le _,HG.out.symm,H.out,za2.refl P w,Row.nil _ _⟩
 case round=>
  obtain ⟨ts,q,hpq,hlen,hgo,hps,htr,hrow⟩:=hrel;have HGO:=zH hgo;clear hgo;have HPS:=zH hps;have hqN:=hps.le;rw[HN.out] at hqN;have hpl2:=hps.lft;rw[HPB.out,HN.out] at hpl2;have hpl3:=zH hpl2;have hgw:w.heap.size<=wr.heap.size:=htr.size;clear hps hpl2;have HTR:=zH htr;clear htr;obtain ⟨ra,rc,rfl⟩:=hrow.form;have HR1:=zH hrow;clear hrow
  have HQN:Hid ((rest P q).length<n):=zH (by have h1:=HNL.out;rw[zaf,HN.out] at h1 ⊢;omega)
  have K:=KB wr q HPS.out;cases hb:sx (rest P q) with
  | false=>
   rw[hb] at K;have HBG:Hid (begins (rest P q)=mk zqf (rest P q)):=zH (by rw[HFN.out,hb];rfl);clear hb;go_wp2_with fail
   refine K.out.mono ?_;rintro e w2 ⟨rfl,hb2⟩;have HPS2:=zH (HPS.out.below hb2);have HT2:=zH (HTR.out.below hb2);have HR2:=zH (HR1.out.below hb2);clear hb2 K;cases hh:mk zqf (rest P q) with
   | false=>
    have KS:=KS0 w2 q _ HPS2.out hh;have HG2:Hid (G=some (zg2 ts,rest P q)):=zH (by rw[HGO.out,z4z (by rw[HBG.out,hh])])
    clear hh;go_wp2_with fail
    refine KS.out.mono ?_;rintro e w3 ⟨rfl,hb3⟩;have HPS3:=zH (HPS2.out.below hb3);have HT3:=zH (HT2.out.below hb3);have HR3:=zH (HR2.out.below hb3);clear hb3 KS;go_wp2_with fail
    go_ret;exact .inl ⟨_,ts,q,rfl,HR3.out,by omega,HPS3.out,HT3.out,HG2.out⟩
   | true=>
    have KS:=KS1 w2 q _ HPS2.out hh;have HH:=zH hh;have hq1:=ztf hh;rw[HN.out] at hq1;clear hh;go_wp2_with fail
    refine KS.out.mono ?_;rintro e w3 ⟨rfl,h3,ht3⟩
    have KE:=KX w3 (q+1) h3 (by have h1:=HQN.out;rw[zaf,HN.out] at h1 ⊢;omega)
    have HT3:=zH (HT2.out.trans ht3);have HR3:=zH (HR2.out.turn ht3 (by rw[HPB.out];exact hpbl));have HRL:=zH (fun b hb=>(HR3.out.lt b hb).2)
    have hg3:w.heap.size<=w3.heap.size:=HT3.out.size;clear h3 ht3 KS;go_wp2_with fail
    refine KE.out.mono ?_;rintro e w4 (⟨t,q4,rfl,ho4,h4,ht4,hg4⟩|⟨⟨v,rfl⟩,ht4,hg4⟩)
    ·have HB4:Hid (∀ b,mk zvj (rest P q4)=b->G=some (zg2 ts++[.mk 9 none_ 0 [] [toE t]],rest P (if b=true then q4+1 else q4))):=zH fun b hb=>by
      rw[HGO.out,z5k (by rw[HBG.out,HH.out]) HH.out (by rw[zab];exact hg4),ydv b hb]
     have hba:Below w4.heap.size w4 (w4.alloc (.cells #[.int .i64 t.kind,.string t.text,.int .i64 t.num,t.vn,t.vk] 25)):=(zB _ _).alloc (zL _) _;have HL4:=zH ((zr9 ho4 ht4.size).node (k:=9) (n:=0) (s:=⟨#[]⟩) (by rfl) (by rfl) (Nat.zero_le _));have HPS4:=zH (h4.below hba);have HT4:=zH ((HT3.out.trans ht4).below hba);have HR4:=zH ((HR3.out.turn ht4 (by rw[HPB.out];exact hpbl)).below hba)
     have hg4':w.heap.size<=w4.heap.size:=Nat.le_trans hg3 ht4.size;have hw4:(w4.alloc (.cells #[.int .i64 t.kind,.string t.text,.int .i64 t.num,t.vn,t.vk] 25)).heap.size=w4.heap.size+1:=by simp
     have hq4:=h4.le;rw[HN.out] at hq4;unfold agg;clear h4 ht4 hg4 ho4 hba KE;go_wp2_with (at_builtin;go_must (refine wpList_append_own_at _ rfl _ _ 23 rfl w.heap.size 25 i0 (.agg #[.int .i64 0,.string ByteArray.empty,.int .i64 0,.slice none 0 0,.slice none 0 0]) 5 80 Tryz.underlying23 hi hz0 hz1 hz2 rfl (by decide) _ ts.length (row ts) rfl (HR4.out.below ((zB _ _).alloc (zL _) _)).own ⟨w4.heap.size+1,0,none⟩ 1 1 (row [T.mk 9 ⟨#[]⟩ 0 [] (.slice none 0 0) (.slice (some ⟨w4.heap.size,0,none⟩) 1 1) [t]]) rfl rfl ?c1 ?c2 ?c3 ?c4 ?c5 ?_))
     case c1=>exact zxf w4 _ (T.mk 9 ⟨#[]⟩ 0 [] (.slice none 0 0) (.slice (some ⟨w4.heap.size,0,none⟩) 1 1) [t]) _
     case c2=>exact zhw ⟨HL4.out.good,trivial⟩
     case c3=>unfold maxLen;omega
     case c4=>omega
     case c5=>simp;omega
     intro v5 w5 hown hgr hnn hat;have HR5:=zH (HR4.out.app HL4.out hg3 HRL.out hown hgr (by rw[hw4];exact hat));have hlow:=zdy (base:=w.heap.size) (by rw[hw4];omega) HR4.out.own hgr;have HPS5:=zH (HPS4.out.low hlow HLO.out);have HT5:=zH (HT4.out.low hlow);clear hown hgr hnn hat hlow;go_wp2_with fail
     cases hdot:mk zvj (rest P q4) with
     | true=>
      have KD:=KS1 w5 q4 _ HPS5.out hdot;refine KD.out.mono ?_;rintro e w6 ⟨rfl,h6,ht6⟩;have HPS6:=zH h6;have HT6:=zH (HT5.out.trans ht6);have HR6:=zH (HR5.out.turn ht6 (by rw[HPB.out];exact hpbl));have HG2:=zH (HB4.out true hdot);clear h6 ht6 KD hdot;go_wp2_with fail
      go_ret;exact .inl ⟨_,_,q4+1,rfl,HR6.out,by simp;omega,HPS6.out,HT6.out,by rw[HG2.out,zfv];rfl⟩
     | false=>
      have KD:=KS0 w5 q4 _ HPS5.out hdot;refine KD.out.mono ?_;rintro e w6 ⟨rfl,hb6⟩;have HPS6:=zH (HPS5.out.below hb6);have HT6:=zH (HT5.out.below hb6);have HR6:=zH (HR5.out.below hb6);have HG2:=zH (HB4.out false hdot);clear hb6 KD hdot;go_wp2_with fail
      go_ret;exact .inl ⟨_,_,q4,rfl,HR6.out,by simp;omega,HPS6.out,HT6.out,by rw[HG2.out,zfv];rfl⟩
    ·have HG2:Hid (G=none):=zH (by rw[HGO.out,z4r (by rw[HBG.out,HH.out]) HH.out (by rw[zab];exact hg4)])
     have HT4:=zH (HT3.out.trans ht4);clear ht4 hg4 KE;go_wp2_with fail
     exact ⟨rfl,.inr ⟨⟨_,rfl⟩,HT4.out,HG2.out⟩⟩
  | true=>
   rw[hb] at K;have HBG:Hid (begins (rest P q)=true/\mk zqf (rest P q)=false):=zH ⟨by rw[HFN.out,hb];rfl,ydr _ hb⟩
   clear hb;go_wp2_with fail
   refine K.out.mono ?_;rintro e w3 ⟨rfl,hb2⟩;have HT3:=zH (HTR.out.below hb2);have HR3:=zH (HR1.out.below hb2);have HRL:=zH (fun b hb=>(HR3.out.lt b hb).2)
   have hg3:w.heap.size<=w3.heap.size:=HT3.out.size;have KE:=KX w3 q (HPS.out.below hb2) HQN.out;clear hb2 K;go_wp2_with fail
   refine KE.out.mono ?_;rintro e w4 (⟨t,q4,rfl,ho4,h4,ht4,hg4⟩|⟨⟨v,rfl⟩,ht4,hg4⟩)
   ·have HO4:=zH ho4
    have HPS4:=zH h4;have HT4:=zH (HT3.out.trans ht4);have HR4:=zH (HR3.out.turn ht4 (by rw[HPB.out];exact hpbl));have hg4':w.heap.size<=w4.heap.size:=Nat.le_trans hg3 ht4.size;have HE4:=zH hg4
    have HQ4:Hid (q<q4/\q4<=N):=zH (by have h1:=zau n _ _ _ hg4;have h2:=h4.le;rw[zaf,zaf,HN.out] at h1;rw[HN.out] at h2;omega)
    obtain ⟨hq4,hq5⟩:=HQ4.out;unfold agg;clear h4 ht4 hg4 ho4 KE;go_wp2_with (at_builtin;go_must (refine wpList_append_own_at _ rfl _ _ 23 rfl w.heap.size 25 i0 (.agg #[.int .i64 0,.string ByteArray.empty,.int .i64 0,.slice none 0 0,.slice none 0 0]) 5 80 Tryz.underlying23 hi hz0 hz1 hz2 rfl (by decide) _ ts.length (row ts) rfl (HR4.out.below ((zB _ _).alloc (zL _) _)).own ⟨w4.heap.size,0,none⟩ 1 1 (row [t]) rfl rfl ?c1 ?c2 ?c3 ?c4 ?c5 ?_))
    case c1=>exact zmo w4 t _
    case c2=>exact zhw ⟨HO4.out.good,trivial⟩
    case c3=>unfold maxLen;omega
    case c4=>omega
    case c5=>simp;omega
    intro v5 w5 hown hgr hnn hat;have HR5:=zH (HR4.out.app HO4.out hg3 HRL.out hown hgr hat);have hlow:=zdy (base:=w.heap.size) hg4' HR4.out.own hgr;have HPS5:=zH (HPS4.out.low hlow HLO.out);have HT5:=zH (HT4.out.low hlow);clear hown hgr hnn hat hlow;go_wp2_with fail
    cases hdot:mk zvj (rest P q4) with
    | true=>
     have KD:=KS1 w5 q4 _ HPS5.out hdot;refine KD.out.mono ?_;rintro e w6 ⟨rfl,h6,ht6⟩;have HPS6:=zH h6;have HT6:=zH (HT5.out.trans ht6);have HR6:=zH (HR5.out.turn ht6 (by rw[HPB.out];exact hpbl));have HG2:Hid (G=zby (expr n) (zg2 (ts++[t])) (rest P (q4+1))):=zH (by rw[HGO.out,z1d (zau n) HBG.out.1 HBG.out.2 HE4.out hdot,zab,zfv];rfl)
     have hq6:=ztf hdot;rw[HN.out] at hq6;clear h6 ht6 KD hdot;go_wp2_with fail
     go_roundw
     case rel=>exact ⟨ts++[t],q4+1,by omega,by simp;omega,HG2.out,HPS6.out,HT6.out,HR6.out⟩
     case measure=>have h1:=HPS6.out.lft;rw[HPB.out,HN.out] at h1;rw[h1,hpl3.out];omega
    | false=>
     have KD:=KS0 w5 q4 _ HPS5.out hdot;refine KD.out.mono ?_;rintro e w6 ⟨rfl,hb6⟩;have HPS6:=zH (HPS5.out.below hb6);have HT6:=zH (HT5.out.below hb6);have HR6:=zH (HR5.out.below hb6);have HG2:Hid (G=some (zg2 ts++[toE t],rest P q4)):=zH (by rw[HGO.out,yab HBG.out.1 HBG.out.2 HE4.out hdot]);clear hb6 KD hdot;go_wp2_with fail
     go_ret;exact .inl ⟨_,ts++[t],q4,rfl,HR6.out,by simp;omega,HPS6.out,HT6.out,by rw[HG2.out,zfv];rfl⟩
   ·have HG2:Hid (G=none):=zH (by rw[HGO.out,z4q HBG.out.1 HBG.out.2 hg4])
    have HT4:=zH (HT3.out.trans ht4);clear ht4 hg4 KE;go_wp2_with fail
    exact ⟨rfl,.inr ⟨⟨_,rfl⟩,HT4.out,HG2.out⟩⟩
end ParI
namespace ParI
open Go.RowKit
open Strs Tree Gram Placed
open Go.Proofs.YtlmhgeanknhcfaaGreatDoor.Parser
def zit (ex:X) (r:R):Option (E×R):=
 match zy6 r with
 | none=>none
 | some (ps,r1)=>
  match names r1 with
  | none=>none
  | some (ts,r2)=>
   match zby ex [] r2 with
   | none=>none
   | some (body,r3)=>some (ziw ps ts body,r3)
theorem z3m (ex:X) (r:R):block ex r=match zit ex r with|none=>none|some (e,r3)=>if mk znw r3 then some (e,r3.tail) else none:=by
 unfold block zit zy6;cases zcb [] r with
 | none=>rfl
 | some y=>
  obtain ⟨ps,r1⟩:=y;simp only;by_cases h0:ps.length=0
  ·rw[if_pos (.inl h0),if_pos h0,if_pos h0]
   simp only;cases names r1 with
   | none=>rfl
   | some z=>
    obtain ⟨ts,r2⟩:=z;simp only;cases zby ex [] r2 with
    | none=>rfl
    | some u=>rfl
  ·rw[if_neg h0,if_neg h0]
   cases hb:mk znh r1 with
   | false=>rw[if_neg (by simp[h0])];rfl
   | true=>
    rw[if_pos (.inr rfl)];simp only[if_true];cases names r1.tail with
    | none=>rfl
    | some z=>
     obtain ⟨ts,r2⟩:=z;simp only;cases zby ex [] r2 with
     | none=>rfl
     | some u=>rfl
theorem ycz {r:R} {ps:List ByteArray} {r1:R} (h:zy6 r=some (ps,r1)):r1.length<=r.length:=by
 unfold zy6 at h
 split at h
 ·cases h
 ·rename_i ps' r2 hp
  have h1:=zm4 _ _ _ _ hp
  split at h
  ·cases h;exact h1
  ·split at h
   ·have:=zmq r2
    cases h;omega
   ·cases h
theorem zuz {ex:X} {r:R} (h:zy6 r=none):zit ex r=none:=by unfold zit;rw[h]
theorem zt3 {ex:X} {r r1:R} {ps:List ByteArray} (h:zy6 r=some (ps,r1)) (h2:names r1=none):zit ex r=none:=by unfold zit;rw[h];simp only;rw[h2]
theorem znm {ex:X} {r r1 r2:R} {ps ts:List ByteArray} (h:zy6 r=some (ps,r1)) (h2:names r1=some (ts,r2)) (h3:zby ex [] r2=none):zit ex r=none:=by unfold zit;rw[h];simp only;rw[h2];simp only;rw[h3]
theorem zoo {ex:X} {r r1 r2 r3:R} {ps ts:List ByteArray} {body:List E} (h:zy6 r=some (ps,r1)) (h2:names r1=some (ts,r2)) (h3:zby ex [] r2=some (body,r3)):zit ex r=some (ziw ps ts body,r3):=by unfold zit;rw[h];simp only;rw[h2];simp only;rw[h3]
theorem zzb {B:Nat} {a b c d e:Value} {w:World} (h:zjd B a b c d e w) (v:Value):zjd B a b c v e (w.setCell ⟨B,3,none⟩ v):=by
 obtain ⟨hs,z0,z1,z2,z3,z4,fz⟩:=h;refine ⟨by simpa using hs,?_,?_,?_,?_,?_,fun o=>?_⟩
 all_goals go_simp
theorem zlk {w:World} {base g c:Nat} {ts:List ByteArray} (h:w.ownsRow base 9 1 (.slice (some ⟨g,0,none⟩) ts.length c) ts.length (ts.map Value.string)):∀ (j:Nat) (u:Value),(ts.map Value.string)[j]?=some u->w.cell? ((⟨g,0,none⟩:Addr).add j)=some u:=by intro j u hj;have hl:=(List.getElem?_eq_some_iff.1 hj).1;rw[List.length_map] at hl;rw[add_plain,Nat.zero_add,h.cellAt j (by omega:j<ts.length*1)];exact hj
theorem zc2 (w:World) (B o:Nat) (v:Value) {x:Nat} (h:x≠B):(w.setCell ⟨B,o,none⟩ v).heap[x]?=w.heap[x]?:=Below.heap_setCell _ _ _ _ (fun e=>h e)
theorem zyr (n:Nat) (h:n<=1000000):(Lit.int .i64 (n:Nat)).wf=true:=by
 have e1:IntKind.min .i64 = -9223372036854775808:=by decide
 have e2:IntKind.max .i64=9223372036854775807:=by decide
 rw[Lit.wf_int_iff,e1,e2];omega
theorem ze8 {n:Nat} (hx:XI n) {P:Cst} {p:Nat} {w:World} (h:IS P p w) (hn:(rest P p).length<n):
  Calls Tryz.prog 125 #[.pointer (some ⟨P.pb,0,none⟩)] w (zof P w (zit (expr n) (rest P p))):=by
 obtain ⟨i0,hi,hz0,hz1,hz2⟩:=info_parts zs6;have hb0:Below w.heap.size w (w.alloc (.cells #[.int .i64 0,.string ⟨#[]⟩,.int .i64 0,.slice none 0 0,.slice none 0 0] 25)):=(zB _ _).alloc (zL _) _;have KP:=zH (zp5 (h.below hb0));have KV:=fun (w1:World) (q:Nat) (h1:IS P q w1)=>zH (zlh h1)
 have KS:=fun (w1:World) (q:Nat) (h1:IS P q w1) (hl:(rest P q).length<n)=>zH (zke hx h1 hl)
 have HT:=zH ((za2.refl P w).low hb0);have HZ:=zH (zcd w 25);have hw0:(w.alloc (.cells #[.int .i64 0,.string ⟨#[]⟩,.int .i64 0,.slice none 0 0,.slice none 0 0] 25)).heap.size=w.heap.size+1:=by simp
 have HW0:=zH hw0;have HLO:=zH h.lo;have hpbl:=h.size;have HLEN:=zH hn;have HF:=zH h.fit.fit;clear h hn hx hb0 hw0;generalize hG:zit (expr n) (rest P p)=G;have HG:=zH hG;clear hG;generalize hpb:P.pb=pb at *;have HPB:=zH hpb;clear hpb;go_enter Tryz.func125,Tryz.ntmps125;go_wp2_with fail
 refine KP.out.mono ?_;rintro e w3 (⟨v3,ps,q3,rfl,ho3,hl3,hx3,h3,ht3,hg3⟩|⟨⟨v,rfl⟩,ht3,hg3⟩)
 case inr=>
  have HG2:Hid (G=none):=zH (by rw[<-HG.out,zuz hg3]);have HT3:=zH (HT.out.trans ht3);clear ht3 hg3 KP;go_wp2_with fail
  exact ⟨rfl,.inr ⟨⟨_,rfl⟩,HT3.out,HG2.out⟩⟩
 obtain ⟨na,nc,rfl⟩:=Kit.za5 ho3;rw[HW0.out] at ho3;have hg3s:=ht3.size;rw[HW0.out] at hg3s;have hbF:Below w3.heap.size w3 (w3.alloc (.cells #[.int .i64 8,.string ⟨#[]⟩,.int .i64 (ps.length:Nat),.slice none 0 0,.slice none 0 0] 25)):=(zB _ _).alloc (zL _) _;have HO3:=zH (own_keep ho3 hbF);have HB3:=zH (fun b (hb:b∈blk (.slice na ps.length nc))=>zdb ho3 b hb)
 have hps3:=h3.below hbF;have HPS3:=zH hps3;have HT3:=zH ((HT.out.trans ht3).low (hbF.mono (by omega)));have HZ3:=zH ((HZ.out.turn ht3 (by rw[HPB.out];omega)).step hbF);have HF3:=zH (zcq w3 (.int .i64 8) (.string ⟨#[]⟩) (.int .i64 (ps.length:Nat)) (.slice none 0 0) (.slice none 0 0) 25);have HG3:=zH hg3;have HX3:=zH hx3;have HQ3:=zH (ycz hg3);have KV3:=KV _ q3 hps3
 have hw3:(w3.alloc (.cells #[.int .i64 8,.string ⟨#[]⟩,.int .i64 (ps.length:Nat),.slice none 0 0,.slice none 0 0] 25)).heap.size=w3.heap.size+1:=by simp
 have HW3:=zH hw3;clear ho3 h3 ht3 hg3 hx3 hbF hps3 KV KP hw3;generalize hpn:ps.length=np at *;have HPN:=zH hpn;clear hpn;go_wp2_with fail
 refine KV3.out.mono ?_;rintro e w4 (⟨v4,ts,q4,rfl,ho4,hl4,hx4,h4,ht4,hg4⟩|⟨⟨v,rfl⟩,ht4,hg4⟩)
 case inr=>
  have HG2:Hid (G=none):=zH (by rw[<-HG.out,zt3 HG3.out hg4]);have HT4:=zH (HT3.out.trans ht4);clear ht4 hg4 KV3;go_wp2_with fail
  exact ⟨rfl,.inr ⟨⟨_,rfl⟩,HT4.out,HG2.out⟩⟩
 have hs4:=ht4.size;rw[HW3.out] at hs4 ho4;have HPS4:=zH h4;have HT4:=zH (HT3.out.trans ht4);have HZ4:=zH (HZ3.out.turn ht4 (by rw[HPB.out];omega));have HF4:=zH (HF3.out.turn ht4 (by rw[HPB.out];omega));have HO4:=zH (zcg HO3.out ht4 (by rw[HPB.out];omega));have HOV:=zH ho4;have HG4:=zH hg4;have HX4:=zH hx4;have HQ4:=zH (zmk hg4);clear h4 ht4 hg4 hx4 KV3
 have ho4':=HOV.out;obtain ⟨-,⟨rfl,hz⟩|⟨g4,c4,cur4,rfl,-,-,hc4,hm4,-,-⟩⟩:=ho4'
 ·have hts:ts=[]:=List.eq_nil_of_length_eq_zero hz
  have HO5:Hid (w4.ownsRow (w.heap.size+1) 9 1 (.slice na np nc) (ps++ts).length ((ps++ts).map Value.string)):=zH (by rw[hts,List.append_nil,HPN.out];exact HO4.out);have HB5:Hid (Below (w.heap.size+1) w4 w4):=zH (zB _ _);have HF5:=zH HF4.out
  have HK5:Hid (∀ b,b∈blk (.slice na np nc)->b≠w3.heap.size/\b<w4.heap.size):=zH fun b hb=>by have:=HB3.out b hb;exact ⟨by omega,by omega⟩
  clear hz hts;have hs5:w4.heap.size<=w4.heap.size:=HB5.out.size;have hbs:Below (w.heap.size+1) w4 (w4.setCell ⟨w3.heap.size,3,none⟩ (.slice na np nc)):=(zB _ _).setCell hg3s _;have hbt:=HB5.out.trans hbs;have HPS6:=zH (HPS4.out.low hbt (HLO.out.le (Nat.le_succ _)));have HT6:=zH (HT4.out.low (hbt.mono (Nat.le_succ _)));have HZ6:=zH (HZ4.out.low hbt (Nat.lt_succ_self _));have HF6:=zH (zzb (HF5.out) (.slice na np nc))
  have HO6:=zH (zd0 HO5.out fun b hb=>zc2 w4 w3.heap.size 3 (.slice na np nc) (HK5.out b hb).1)
  have hws:(w4.setCell ⟨w3.heap.size,3,none⟩ (.slice na np nc)).heap.size=w4.heap.size:=by simp[World.setCell]
  have KS6:=KS _ q4 HPS6.out (by have h1:=HLEN.out;have h2:=HQ3.out;have h3:=HQ4.out;omega)
  obtain ⟨hs5',f0,f1,f2,f3,f4,ffz⟩:=HF5.out;clear hbs hbt;go_wp2_with (at_builtin;go_must (refine wpList_append_own_none rfl _ _ 22 rfl (w.heap.size+1) 9 i0 1 Tryz.underlying22 hi _ np (ps.map Value.string) rfl HO4.out rfl ?_))
  refine KS6.out.mono ?_;rintro e w7 (⟨v7,ks,q7,rfl,hr7,hl7,h7,ht7,hg7⟩|⟨⟨v,rfl⟩,ht7,hg7⟩)
  case inr=>
   have HG2:Hid (G=none):=zH (by rw[<-HG.out,znm HG3.out HG4.out hg7]);have HT7:=zH (HT6.out.trans ht7);clear ht7 hg7 KS6;go_wp2_with fail
   exact ⟨rfl,.inr ⟨⟨_,rfl⟩,HT7.out,HG2.out⟩⟩
  obtain ⟨ka,kc,rfl⟩:=hr7.form;rw[hws] at hr7;have hs7:=ht7.size;rw[hws] at hs7;have HPS7:=zH h7;have HT7:=zH (HT6.out.trans ht7);have HZ7:=zH (HZ6.out.turn ht7 (by rw[HPB.out];omega));have HF7:=zH (HF6.out.turn ht7 (by rw[HPB.out];omega));have HO7:=zH (zcg HO6.out ht7 (by rw[HPB.out];omega));have HG2:Hid (G=some (ziw ps ts (zg2 ks),rest P q7)):=zH (by rw[<-HG.out,zoo HG3.out HG4.out hg7])
  have HTREE:Hid (Own (w.heap.size+1) w7 (.mk 8 ⟨#[]⟩ (np:Nat) (ps++ts) (.slice na np nc) (.slice ka ks.length kc) ks)):=zH (zjn (by rfl) (zyr np (by omega)) (Nat.zero_le _) (fun x hx=>by
   rcases List.mem_append.1 hx with hx|hx
   ·exact HX3.out x hx
   ·exact HX4.out x hx) HO7.out (zfx hr7.own fun b hb=>by have:=(zdb hr7.own b hb).1;omega) (hr7.kids.mono (by omega)) (fun b hb=>by
    have h1:=(HK5.out b hb).2;refine ⟨fun hb2=>?_,fun hb2=>?_⟩
    ·have:=(zdb hr7.own b hb2).1;omega
    ·have:=hr7.kids.lo b hb2;omega) hr7.apart)
  have HNB:Hid (w3.heap.size∉foot (T.mk 8 ⟨#[]⟩ (np:Nat) (ps++ts) (.slice na np nc) (.slice ka ks.length kc) ks)):=zH (by
   rw[foot];intro hm;rcases List.mem_append.1 hm with hm|hm
   ·exact (HK5.out _ hm).1 rfl
   rcases List.mem_append.1 hm with hm|hm
   ·have:=(zdb hr7.own _ hm).1;omega
   ·have:=hr7.kids.lo _ hm;omega)
  obtain ⟨hs8,f0,f1,f2,f3,f4,ffz⟩:=HF7.out;obtain ⟨hszz,y0,y1,y2,y3,y4,yfz⟩:=HZ7.out;clear h7 ht7 hg7 hr7 KS6 hws;go_wp2_with fail
  have hb8:Below w.heap.size w7 (w7.setCell ⟨w3.heap.size,4,none⟩ (.slice ka ks.length kc)):=(zB _ _).setCell (by show w.heap.size<=w3.heap.size;omega) _;have hb9:=zai (B:=w.heap.size) hb8 (zL _) (.int .i64 8) (.string ⟨#[]⟩) (.int .i64 (np:Nat)) (.slice na np nc) (.slice ka ks.length kc);refine bodyPost_ret (v:=.agg #[.int .i64 8,.string ⟨#[]⟩,.int .i64 (np:Nat),.slice na np nc,.slice ka ks.length kc]) (by simp[results,Tryz.results125,go_sem, *]) rfl ?_
  refine .inl ⟨.mk 8 ⟨#[]⟩ (np:Nat) (ps++ts) (.slice na np nc) (.slice ka ks.length kc) ks,q7,rfl,(HTREE.out.frame fun b hb=>?_).mono (Nat.le_succ _),HPS7.out.low hb9 HLO.out,HT7.out.low hb9,?_⟩
  ·exact (zf9 _ w.heap.size _ _ _ _ _ (by have:=HTREE.out.lo b hb;omega)).trans (zc2 w7 w3.heap.size 4 _ (fun e=>HNB.out (e▸hb)))
  ·rw[HG2.out,toE,ziw,HPN.out]
   rfl
 ·go_wp2_with (at_builtin;go_must (refine wpList_append_own_at _ rfl _ _ 22 rfl (w.heap.size+1) 9 i0 (.string ByteArray.empty) 1 16 Tryz.underlying22 hi hz0 hz1 hz2 rfl (by decide) _ np (ps.map Value.string) rfl HO4.out ⟨g4,0,none⟩ ts.length c4 (ts.map Value.string) rfl ?c0 ?c1 ?c2 ?c3 ?c4 ?c5 ?_))
  case c0=>simp
  case c1=>exact zlk HOV.out
  case c2=>exact zr6 _
  case c3=>unfold maxLen;omega
  case c4=>omega
  case c5=>omega
  intro v5 w5 hown hgr _ hat;have hlen:(ps++ts).length=np+ts.length:=by rw[List.length_append,HPN.out]
  have HO5':Hid (w5.ownsRow (w.heap.size+1) 9 1 v5 (ps++ts).length ((ps++ts).map Value.string)):=zH (by rw[hlen,List.map_append];exact hown);have HB5:Hid (Below (w.heap.size+1) w4 w5):=zH ((zB _ _).grown hgr (by omega) (fun k hk=>(HO4.out.lt k hk).1))
  have HF5:=zH (HF4.out.same hgr.size (hgr.block _ (by omega) (by intro e;have:=HB3.out w3.heap.size (by unfold blk;rw[<-e];simp);omega)))
  have HK5':Hid (∀ b,b∈blk v5->b≠w3.heap.size/\b<w5.heap.size):=zH fun b hb=>by
   refine ⟨?_,(zdb hown b hb).2⟩;unfold blk at hb;rcases hat with e|e
   ·rw[e] at hb
    have:=HB3.out b hb;omega
   ·rw[e] at hb
    simp at hb;omega
  obtain ⟨a5,c5,hv5⟩:=Kit.za5 HO5'.out;rw[hlen] at hv5;subst hv5;have HO5:=zH HO5'.out;have HK5:=zH HK5'.out;clear hown hgr hat HO5' HK5' hlen;have hs5:w4.heap.size<=w5.heap.size:=HB5.out.size;have hbs:Below (w.heap.size+1) w5 (w5.setCell ⟨w3.heap.size,3,none⟩ (.slice a5 (np+ts.length) c5)):=(zB _ _).setCell hg3s _;have hbt:=HB5.out.trans hbs;have HPS6:=zH (HPS4.out.low hbt (HLO.out.le (Nat.le_succ _)))
  have HT6:=zH (HT4.out.low (hbt.mono (Nat.le_succ _)));have HZ6:=zH (HZ4.out.low hbt (Nat.lt_succ_self _));have HF6:=zH (zzb (HF5.out) (.slice a5 (np+ts.length) c5));have HO6:=zH (zd0 HO5.out fun b hb=>zc2 w5 w3.heap.size 3 (.slice a5 (np+ts.length) c5) (HK5.out b hb).1)
  have hws:(w5.setCell ⟨w3.heap.size,3,none⟩ (.slice a5 (np+ts.length) c5)).heap.size=w5.heap.size:=by simp[World.setCell]
  have KS6:=KS _ q4 HPS6.out (by have h1:=HLEN.out;have h2:=HQ3.out;have h3:=HQ4.out;omega)
  obtain ⟨hs5',f0,f1,f2,f3,f4,ffz⟩:=HF5.out;clear hbs hbt;go_wp2_with fail
  refine KS6.out.mono ?_;rintro e w7 (⟨v7,ks,q7,rfl,hr7,hl7,h7,ht7,hg7⟩|⟨⟨v,rfl⟩,ht7,hg7⟩)
  case inr=>
   have HG2:Hid (G=none):=zH (by rw[<-HG.out,znm HG3.out HG4.out hg7]);have HT7:=zH (HT6.out.trans ht7);clear ht7 hg7 KS6;go_wp2_with fail
   exact ⟨rfl,.inr ⟨⟨_,rfl⟩,HT7.out,HG2.out⟩⟩
  obtain ⟨ka,kc,rfl⟩:=hr7.form;rw[hws] at hr7;have hs7:=ht7.size;rw[hws] at hs7;have HPS7:=zH h7;have HT7:=zH (HT6.out.trans ht7);have HZ7:=zH (HZ6.out.turn ht7 (by rw[HPB.out];omega));have HF7:=zH (HF6.out.turn ht7 (by rw[HPB.out];omega));have HO7:=zH (zcg HO6.out ht7 (by rw[HPB.out];omega));have HG2:Hid (G=some (ziw ps ts (zg2 ks),rest P q7)):=zH (by rw[<-HG.out,zoo HG3.out HG4.out hg7])
  have HTREE:Hid (Own (w.heap.size+1) w7 (.mk 8 ⟨#[]⟩ (np:Nat) (ps++ts) (.slice a5 (np+ts.length) c5) (.slice ka ks.length kc) ks)):=zH (zjn (by rfl) (zyr np (by omega)) (Nat.zero_le _) (fun x hx=>by
   rcases List.mem_append.1 hx with hx|hx
   ·exact HX3.out x hx
   ·exact HX4.out x hx) HO7.out (zfx hr7.own fun b hb=>by have:=(zdb hr7.own b hb).1;omega) (hr7.kids.mono (by omega)) (fun b hb=>by
    have h1:=(HK5.out b hb).2;refine ⟨fun hb2=>?_,fun hb2=>?_⟩
    ·have:=(zdb hr7.own b hb2).1;omega
    ·have:=hr7.kids.lo b hb2;omega) hr7.apart)
  have HNB:Hid (w3.heap.size∉foot (T.mk 8 ⟨#[]⟩ (np:Nat) (ps++ts) (.slice a5 (np+ts.length) c5) (.slice ka ks.length kc) ks)):=zH (by
   rw[foot];intro hm;rcases List.mem_append.1 hm with hm|hm
   ·exact (HK5.out _ hm).1 rfl
   rcases List.mem_append.1 hm with hm|hm
   ·have:=(zdb hr7.own _ hm).1;omega
   ·have:=hr7.kids.lo _ hm;omega)
  obtain ⟨hs8,f0,f1,f2,f3,f4,ffz⟩:=HF7.out;obtain ⟨hszz,y0,y1,y2,y3,y4,yfz⟩:=HZ7.out;clear h7 ht7 hg7 hr7 KS6 hws;go_wp2_with fail
  have hb8:Below w.heap.size w7 (w7.setCell ⟨w3.heap.size,4,none⟩ (.slice ka ks.length kc)):=(zB _ _).setCell (by show w.heap.size<=w3.heap.size;omega) _;have hb9:=zai (B:=w.heap.size) hb8 (zL _) (.int .i64 8) (.string ⟨#[]⟩) (.int .i64 (np:Nat)) (.slice a5 (np+ts.length) c5) (.slice ka ks.length kc);refine bodyPost_ret (v:=.agg #[.int .i64 8,.string ⟨#[]⟩,.int .i64 (np:Nat),.slice a5 (np+ts.length) c5,.slice ka ks.length kc]) (by simp[results,Tryz.results125,go_sem, *]) rfl ?_
  refine .inl ⟨.mk 8 ⟨#[]⟩ (np:Nat) (ps++ts) (.slice a5 (np+ts.length) c5) (.slice ka ks.length kc) ks,q7,rfl,(HTREE.out.frame fun b hb=>?_).mono (Nat.le_succ _),HPS7.out.low hb9 HLO.out,HT7.out.low hb9,?_⟩
  ·exact (zf9 _ w.heap.size _ _ _ _ _ (by have:=HTREE.out.lo b hb;omega)).trans (zc2 w7 w3.heap.size 4 _ (fun e=>HNB.out (e▸hb)))
  ·rw[HG2.out,toE,ziw,HPN.out]
   rfl
end ParI
namespace ParI
open Go.RowKit
open Strs Tree Gram Placed
open Go.Proofs.YtlmhgeanknhcfaaGreatDoor.Parser
theorem z1n {ex:X} {r:R} (h:hd 1 r=true):zbf ex r=some (z0l (txt r),r.tail):=by obtain ⟨t,r',rfl,hk⟩:=zff h;rw[zbf,if_pos hk];rfl
theorem z7s {ex:X} {r:R} (h:hd 3 r=true):zbf ex r=some (.mk 1 none_ (nxt r).num [] [],r.tail):=by obtain ⟨t,r',rfl,hk⟩:=zff h;rw[zbf,if_neg (by omega),if_pos hk];rfl
theorem z2q {ex:X} {r:R} (h:hd 4 r=true):zbf ex r=some (.mk 2 (txt r) 0 [] [],r.tail):=by obtain ⟨t,r',rfl,hk⟩:=zff h;rw[zbf,if_neg (by omega),if_neg (by omega),if_pos hk];rfl
theorem z7o {ex:X} {r:R} (h:hd 5 r=true):zbf ex r=some (.mk 3 (txt r) 0 [] [],r.tail):=by obtain ⟨t,r',rfl,hk⟩:=zff h;rw[zbf,if_neg (by omega),if_neg (by omega),if_neg (by omega),if_pos hk];rfl
theorem z3o {s:ByteArray} {r:R} (h:mk s r=true):∃ t r',r=t::r'/\t.kind=7/\t.text=s:=by
 cases r with
 | nil=>cases h
 | cons t r=>simp only[mk,Bool.and_eq_true,decide_eq_true_eq] at h;exact ⟨t,r,rfl,h.1,h.2⟩
theorem zto {ex:X} {r:R} (h:mk zgs r=true):zbf ex r=match ex r.tail with|none=>none|some (e,r1)=>if mk zle r1 then some (e,r1.tail) else none:=by obtain ⟨t,r',rfl,h7,hx⟩:=z3o h;exact zqj h7 hx
theorem ztm {ex:X} {r:R} (h:mk zhc r=true):zbf ex r=block ex r.tail:=by obtain ⟨t,r',rfl,h7,hx⟩:=z3o h;exact zqz h7 hx
theorem ycu {ex:X} {r:R} (h1:hd 1 r=false) (h3:hd 3 r=false) (h4:hd 4 r=false) (h5:hd 5 r=false) (ho:mk zgs r=false) (hl:mk zhc r=false):zbf ex r=none:=by
 cases r with
 | nil=>rfl
 | cons t r=>
  refine zpb (of_decide_eq_false h1) (of_decide_eq_false h3) (of_decide_eq_false h4) (of_decide_eq_false h5) fun h7=>⟨fun e=>?_,fun e=>?_⟩
  ·simp[mk,h7,e] at ho
  ·simp[mk,h7,e] at hl
theorem zhi {k:Int} {r:R} (h:hd k r=true):(nxt r).kind=k:=by obtain ⟨t,r',rfl,hk⟩:=zff h;exact hk
theorem ydy {P:Cst} (h:yc0 P) (p:Nat):(Lit.int .i64 (nxt (rest P p)).num).wf=true:=by
 cases hr:rest P p with
 | nil=>rfl
 | cons t r=>exact (h.fine t (List.mem_of_getElem? (zb8 hr).2.1)).wf.2
theorem zpz {n:Nat} (hx:XI n) {P:Cst} {p:Nat} {w:World} (h:IS P p w) (hn:(rest P p).length<=n):
  Calls Tryz.prog 76 #[.pointer (some ⟨P.pb,0,none⟩)] w (zof P w (zbf (expr n) (rest P p))):=by
 have hb0:Below w.heap.size w (w.alloc (.cells #[.int .i64 0,.string ⟨#[]⟩,.int .i64 0,.slice none 0 0,.slice none 0 0] 25)):=(zB _ _).alloc (zL _) _;have h1:=h.below hb0;have KN:=zH (zcp h1);have hw0:(w.alloc (.cells #[.int .i64 0,.string ⟨#[]⟩,.int .i64 0,.slice none 0 0,.slice none 0 0] 25)).heap.size=w.heap.size+1:=by simp
 have H0:=zH (fun (w1:World) (hb:Below (w.alloc (.cells #[.int .i64 0,.string ⟨#[]⟩,.int .i64 0,.slice none 0 0,.slice none 0 0] 25)).heap.size (w.alloc (.cells #[.int .i64 0,.string ⟨#[]⟩,.int .i64 0,.slice none 0 0,.slice none 0 0] 25)) w1) (o:Obj)=>
  have hb2:Below w.heap.size w w1:=hb0.trans (hb.mono (by omega));have hbo:Below w1.heap.size w1 (w1.alloc o):=(zB _ _).alloc (zL _) o;show IS P p (w1.alloc o)/\za2 P w (w1.alloc o)/\Zero w.heap.size (w1.alloc o)/\w.heap.size<w1.heap.size from
  ⟨(h1.below hb).below hbo,((za2.refl P w).low hb2).low (hbo.mono hb2.size),((zcd w 25).step hb).step hbo,by have:=hb.size;omega⟩)
 have KT:=fun (w1:World) (k:Int) (h1:IS P p w1) (hb:hd k (rest P p)=true)=>zH (zcr h1 hb)
 have KS1:=fun (w1:World) (q:Nat) (s:ByteArray) (h1:IS P q w1) (hb:mk s (rest P q)=true)=>zH (zj2 h1 hb)
 have KS0:=fun (w1:World) (q:Nat) (s:ByteArray) (h1:IS P q w1) (hb:mk s (rest P q)=false)=>zH (zms h1 hb)
 have KN1:=fun (w1:World) (q:Nat) (s:ByteArray) (h1:IS P q w1) (hb:mk s (rest P q)=true)=>zH (zck h1 hb)
 have KN0:=fun (w1:World) (q:Nat) (s:ByteArray) (h1:IS P q w1) (hb:mk s (rest P q)=false)=>zH (znd h1 hb)
 have KX:=fun (w1:World) (q:Nat) (h1:IS P q w1) (hl:(rest P q).length<n)=>zH (hx P q w1 h1 hl)
 have KB:=fun (w1:World) (q:Nat) (h1:IS P q w1) (hl:(rest P q).length<n)=>zH (ze8 hx h1 hl)
 have HLO:=zH h.lo;have hpbl:=h.size;have HLEN:=zH hn;have HFT:=zH h.fit.fit;have HFI:=zH h.fit;clear h h1 hn hx hb0 hw0;generalize hG:zbf (expr n) (rest P p)=G;have HG:=zH hG;clear hG;generalize hpb:P.pb=pb at *;have HPB:=zH hpb;clear hpb;have HWF:Hid ((Lit.int .i64 (nxt (rest P p)).num).wf=true):=zH (ydy HFI.out p);cases h1:hd 1 (rest P p) with
 | true=>
  have e1:=zhi h1;have HG2:Hid (G=some (z0l (txt (rest P p)),rest P (p+1))):=zH (by rw[<-HG.out,z1n h1,zab]);have H1:=zH h1;have htx:=zcn (p:=p) HFT.out;clear h1;generalize nxt (rest P p)=t at *;obtain ⟨tk,tt,tn⟩:=t;simp only at e1 HG2;subst e1;generalize txt (rest P p)=x at *;go_enter Tryz.func76,Tryz.ntmps76;go_wp2_with fail
  refine KN.out.mono ?_;rintro e w1 ⟨rfl,hb1⟩;obtain ⟨hps,htr,hz,hlt⟩:=H0.out w1 hb1 (.cells #[.int .i64 1,.string tt,.int .i64 tn] 94);have KT1:=KT _ 1 hps H1.out;have HTR:=zH htr;have HZ:=zH hz;have c2:(w1.alloc (.cells #[.int .i64 1,.string tt,.int .i64 tn] 94)).cell? ⟨w1.heap.size,2,none⟩=some (.int .i64 tn):=by go_simp
  have HC2:=zH c2;clear hps htr hz hb1 KN c2;go_wp2_with fail
  refine KT1.out.mono ?_;rintro e w3 ⟨rfl,h3,ht3⟩;have HPS3:=zH h3;have HT3:=zH (HTR.out.trans ht3);have t2:=World.grownBy.cell ht3 HC2.out (by rw[HPB.out];simp;omega);obtain ⟨hszz,y0,y1,y2,y3,y4,yfz⟩:=HZ.out.turn ht3 (by rw[HPB.out];omega);clear h3 ht3 KT1;go_wp2_with fail
  have hb9:=zai (zB w.heap.size w3) (B:=w.heap.size) (zL _) (.int .i64 4) (.string x) (.int .i64 0) (.slice none 0 0) (.slice none 0 0);refine bodyPost_ret (v:=.agg #[.int .i64 4,.string x,.int .i64 0,.slice none 0 0,.slice none 0 0]) (by simp[results,Tryz.results76,go_sem, *]) rfl ?_;exact .inl ⟨.mk 4 x 0 [] (.slice none 0 0) (.slice none 0 0) [],p+1,rfl,zih (by rfl) (by rfl) (by unfold maxLen;omega),HPS3.out.low hb9 HLO.out,HT3.out.low hb9,HG2.out⟩
 | false=>
 cases h3:hd 3 (rest P p) with
 | true=>
  have e1:=zhi h3;have HG2:Hid (G=some (.mk 1 none_ (nxt (rest P p)).num [] [],rest P (p+1))):=zH (by rw[<-HG.out,z7s h3,zab]);have H1:=zH h3;have htx:=zcn (p:=p) HFT.out;clear h3;generalize nxt (rest P p)=t at *;obtain ⟨tk,tt,tn⟩:=t;simp only at e1 HG2;subst e1;generalize txt (rest P p)=x at *;go_enter Tryz.func76,Tryz.ntmps76;go_wp2_with fail
  refine KN.out.mono ?_;rintro e w1 ⟨rfl,hb1⟩;obtain ⟨hps,htr,hz,hlt⟩:=H0.out w1 hb1 (.cells #[.int .i64 3,.string tt,.int .i64 tn] 94);have KT1:=KT _ 3 hps H1.out;have HTR:=zH htr;have HZ:=zH hz;have c2:(w1.alloc (.cells #[.int .i64 3,.string tt,.int .i64 tn] 94)).cell? ⟨w1.heap.size,2,none⟩=some (.int .i64 tn):=by go_simp
  have HC2:=zH c2;clear hps htr hz hb1 KN c2;go_wp2_with fail
  refine KT1.out.mono ?_;rintro e w3 ⟨rfl,h3,ht3⟩;have HPS3:=zH h3;have HT3:=zH (HTR.out.trans ht3);have t2:=World.grownBy.cell ht3 HC2.out (by rw[HPB.out];simp;omega);obtain ⟨hszz,y0,y1,y2,y3,y4,yfz⟩:=HZ.out.turn ht3 (by rw[HPB.out];omega);clear h3 ht3 KT1;go_wp2_with fail
  have hb9:=zai (zB w.heap.size w3) (B:=w.heap.size) (zL _) (.int .i64 1) (.string ⟨#[]⟩) (.int .i64 tn) (.slice none 0 0) (.slice none 0 0);refine bodyPost_ret (v:=.agg #[.int .i64 1,.string ⟨#[]⟩,.int .i64 tn,.slice none 0 0,.slice none 0 0]) (by simp[results,Tryz.results76,go_sem, *]) rfl ?_;exact .inl ⟨.mk 1 ⟨#[]⟩ tn [] (.slice none 0 0) (.slice none 0 0) [],p+1,rfl,zih (by rfl) (HWF.out) (Nat.zero_le _),HPS3.out.low hb9 HLO.out,HT3.out.low hb9,HG2.out⟩
 | false=>
 cases h4:hd 4 (rest P p) with
 | true=>
  have e1:=zhi h4;have HG2:Hid (G=some (.mk 2 (txt (rest P p)) 0 [] [],rest P (p+1))):=zH (by rw[<-HG.out,z2q h4,zab]);have H1:=zH h4;have htx:=zcn (p:=p) HFT.out;clear h4;generalize nxt (rest P p)=t at *;obtain ⟨tk,tt,tn⟩:=t;simp only at e1 HG2;subst e1;generalize txt (rest P p)=x at *;go_enter Tryz.func76,Tryz.ntmps76;go_wp2_with fail
  refine KN.out.mono ?_;rintro e w1 ⟨rfl,hb1⟩;obtain ⟨hps,htr,hz,hlt⟩:=H0.out w1 hb1 (.cells #[.int .i64 4,.string tt,.int .i64 tn] 94);have KT1:=KT _ 4 hps H1.out;have HTR:=zH htr;have HZ:=zH hz;have c2:(w1.alloc (.cells #[.int .i64 4,.string tt,.int .i64 tn] 94)).cell? ⟨w1.heap.size,2,none⟩=some (.int .i64 tn):=by go_simp
  have HC2:=zH c2;clear hps htr hz hb1 KN c2;go_wp2_with fail
  refine KT1.out.mono ?_;rintro e w3 ⟨rfl,h3,ht3⟩;have HPS3:=zH h3;have HT3:=zH (HTR.out.trans ht3);have t2:=World.grownBy.cell ht3 HC2.out (by rw[HPB.out];simp;omega);obtain ⟨hszz,y0,y1,y2,y3,y4,yfz⟩:=HZ.out.turn ht3 (by rw[HPB.out];omega);clear h3 ht3 KT1;go_wp2_with fail
  have hb9:=zai (zB w.heap.size w3) (B:=w.heap.size) (zL _) (.int .i64 2) (.string x) (.int .i64 0) (.slice none 0 0) (.slice none 0 0);refine bodyPost_ret (v:=.agg #[.int .i64 2,.string x,.int .i64 0,.slice none 0 0,.slice none 0 0]) (by simp[results,Tryz.results76,go_sem, *]) rfl ?_;exact .inl ⟨.mk 2 x 0 [] (.slice none 0 0) (.slice none 0 0) [],p+1,rfl,zih (by rfl) (by rfl) (by unfold maxLen;omega),HPS3.out.low hb9 HLO.out,HT3.out.low hb9,HG2.out⟩
 | false=>
 cases h5:hd 5 (rest P p) with
 | true=>
  have e1:=zhi h5;have HG2:Hid (G=some (.mk 3 (txt (rest P p)) 0 [] [],rest P (p+1))):=zH (by rw[<-HG.out,z7o h5,zab]);have H1:=zH h5;have htx:=zcn (p:=p) HFT.out;clear h5;generalize nxt (rest P p)=t at *;obtain ⟨tk,tt,tn⟩:=t;simp only at e1 HG2;subst e1;generalize txt (rest P p)=x at *;go_enter Tryz.func76,Tryz.ntmps76;go_wp2_with fail
  refine KN.out.mono ?_;rintro e w1 ⟨rfl,hb1⟩;obtain ⟨hps,htr,hz,hlt⟩:=H0.out w1 hb1 (.cells #[.int .i64 5,.string tt,.int .i64 tn] 94);have KT1:=KT _ 5 hps H1.out;have HTR:=zH htr;have HZ:=zH hz;have c2:(w1.alloc (.cells #[.int .i64 5,.string tt,.int .i64 tn] 94)).cell? ⟨w1.heap.size,2,none⟩=some (.int .i64 tn):=by go_simp
  have HC2:=zH c2;clear hps htr hz hb1 KN c2;go_wp2_with fail
  refine KT1.out.mono ?_;rintro e w3 ⟨rfl,h3,ht3⟩;have HPS3:=zH h3;have HT3:=zH (HTR.out.trans ht3);have t2:=World.grownBy.cell ht3 HC2.out (by rw[HPB.out];simp;omega);obtain ⟨hszz,y0,y1,y2,y3,y4,yfz⟩:=HZ.out.turn ht3 (by rw[HPB.out];omega);clear h3 ht3 KT1;go_wp2_with fail
  have hb9:=zai (zB w.heap.size w3) (B:=w.heap.size) (zL _) (.int .i64 3) (.string x) (.int .i64 0) (.slice none 0 0) (.slice none 0 0);refine bodyPost_ret (v:=.agg #[.int .i64 3,.string x,.int .i64 0,.slice none 0 0,.slice none 0 0]) (by simp[results,Tryz.results76,go_sem, *]) rfl ?_;exact .inl ⟨.mk 3 x 0 [] (.slice none 0 0) (.slice none 0 0) [],p+1,rfl,zih (by rfl) (by rfl) (by unfold maxLen;omega),HPS3.out.low hb9 HLO.out,HT3.out.low hb9,HG2.out⟩
 | false=>
 clear HWF;have e1:=zh5 (k:=1) (by decide) h1;have e3:=zh5 (k:=3) (by decide) h3;have e4:=zh5 (k:=4) (by decide) h4;have e5:=zh5 (k:=5) (by decide) h5;have HNO:=zH (fun ho hl=>ycu (ex:=expr n) h1 h3 h4 h5 ho hl)
 clear h1 h3 h4 h5 KT;generalize nxt (rest P p)=t at *;obtain ⟨tk,tt,tn⟩:=t;simp only at e1 e3 e4 e5;go_enter Tryz.func76,Tryz.ntmps76;go_wp2_with fail
 refine KN.out.mono ?_;rintro e w1 ⟨rfl,hb1⟩;obtain ⟨hps,htr,hz,hlt⟩:=H0.out w1 hb1 (.cells #[.int .i64 tk,.string tt,.int .i64 tn] 94);have HPS1:=zH hps;have HT1:=zH htr;have HZ1:=zH hz;clear hps htr hz hb1 KN H0;cases ho:mk zgs (rest P p) with
 | true=>
  have HOP:=zH ho;have KS:=KS1 _ p _ HPS1.out ho;have hl1:=zhp ho;rw[zab] at hl1;have HL1:Hid ((rest P (p+1)).length<n):=zH (Nat.lt_of_lt_of_le hl1 HLEN.out);clear ho hl1;go_wp2_with fail
  refine KS.out.mono ?_;rintro e w3 ⟨rfl,h3,ht3⟩;have KE:=KX w3 (p+1) h3 HL1.out;have HT3:=zH (HT1.out.trans ht3);have HZ3:=zH (HZ1.out.turn ht3 (by rw[HPB.out];omega));have hg3:=HZ3.out.size;clear h3 ht3 KS;go_wp2_with fail
  refine KE.out.mono ?_;rintro e w4 (⟨t,q4,rfl,ho4,h4,ht4,hg4⟩|⟨⟨v,rfl⟩,ht4,hg4⟩)
  case inr=>
   have HG2:Hid (G=none):=zH (by rw[<-HG.out,zto HOP.out,zab,hg4]);have HT4:=zH (HT3.out.trans ht4);clear ht4 hg4 KE;go_wp2_with fail
   exact ⟨rfl,.inr ⟨⟨_,rfl⟩,HT4.out,HG2.out⟩⟩
  have HGO:Hid (G=if mk zle (rest P q4)=true then some (toE t,(rest P q4).tail) else none):=zH (by rw[<-HG.out,zto HOP.out,zab,hg4])
  have hs4:=ht4.size;obtain ⟨fa,fc,fa',fc',hf1,hf2⟩:=zbm ho4.good;obtain ⟨uk,ut,un,uns,uvn,uvk,uks⟩:=t;simp only[T.vn,T.vk,T.names,T.kids] at hf1 hf2;subst hf1 hf2;have hba:Below w4.heap.size w4 (w4.alloc (.cells #[.int .i64 uk,.string ut,.int .i64 un,.slice fa uns.length fc,.slice fa' uks.length fc'] 25)):=(zB _ _).alloc (zL _) _;have HO4:=zH (ho4.below hba);have HPS4:=zH (h4.below hba)
  have HT4:=zH ((HT3.out.trans ht4).below hba);have HZ4:=zH ((HZ3.out.turn ht4 (by rw[HPB.out];omega)).step hba);have HF4:=zH (zcq w4 (.int .i64 uk) (.string ut) (.int .i64 un) (.slice fa uns.length fc) (.slice fa' uks.length fc') 25);unfold agg;simp only[T.kind,T.text,T.num,T.vn,T.vk];clear h4 ht4 ho4 hg4 hba KE;cases hc:mk zle (rest P q4) with
  | false=>
   have KC:=KN0 _ q4 _ HPS4.out hc;have HG2:Hid (G=none):=zH (by rw[HGO.out,hc];rfl);clear hc;go_wp2_with fail
   refine KC.out.mono ?_;rintro e w5 ⟨⟨v,rfl⟩,hb5⟩;have HT5:=zH (HT4.out.below hb5);clear hb5;go_wp2_with fail
   exact ⟨rfl,.inr ⟨⟨_,rfl⟩,HT5.out,HG2.out⟩⟩
  | true=>
   have KC:=KN1 _ q4 _ HPS4.out hc;have HG2:Hid (G=some (toE (.mk uk ut un uns (.slice fa uns.length fc) (.slice fa' uks.length fc') uks),rest P (q4+1))):=zH (by rw[HGO.out,hc,zab];rfl);clear hc;go_wp2_with fail
   refine KC.out.mono ?_;rintro e w5 ⟨rfl,h5,ht5⟩;have HPS5:=zH h5;have HT5:=zH (HT4.out.trans ht5);have HO5:=zH (zpx HO4.out ht5 (by rw[HPB.out];omega));obtain ⟨hszz,y0,y1,y2,y3,y4,yfz⟩:=HZ4.out.turn ht5 (by rw[HPB.out];omega);obtain ⟨hs5,f0,f1,f2,f3,f4,ffz⟩:=HF4.out.turn ht5 (by rw[HPB.out];omega);clear h5 ht5 KC;go_wp2_with fail
   have hb9:=zai (zB w.heap.size w5) (B:=w.heap.size) (zL _) (.int .i64 uk) (.string ut) (.int .i64 un) (.slice fa uns.length fc) (.slice fa' uks.length fc');refine bodyPost_ret (v:=.agg #[.int .i64 uk,.string ut,.int .i64 un,.slice fa uns.length fc,.slice fa' uks.length fc']) (by simp[results,Tryz.results76,go_sem, *]) rfl ?_;exact .inl ⟨.mk uk ut un uns (.slice fa uns.length fc) (.slice fa' uks.length fc') uks,q4+1,rfl,(Own.zgq HO5.out (B:=w.heap.size) (fun hm=>by have:=HO5.out.lo _ hm;omega) _ _ _ _ _).mono (by omega),HPS5.out.low hb9 HLO.out,HT5.out.low hb9,HG2.out⟩
 | false=>
  have HOP:=zH ho;have KS:=KS0 _ p _ HPS1.out ho;clear ho;go_wp2_with fail
  refine KS.out.mono ?_;rintro e w2 ⟨rfl,hb2⟩;have HPS2:=zH (HPS1.out.below hb2);have HT2:=zH (HT1.out.below hb2);have HZ2:=zH (HZ1.out.step hb2);clear hb2 KS;cases hl:mk zhc (rest P p) with
  | false=>
   have KC:=KN0 _ p _ HPS2.out hl;have HG2:Hid (G=none):=zH (by rw[<-HG.out,HNO.out HOP.out hl]);clear hl;go_wp2_with fail
   refine KC.out.mono ?_;rintro e w5 ⟨⟨v,rfl⟩,hb5⟩;have HT5:=zH (HT2.out.below hb5);clear hb5;go_wp2_with fail
   exact ⟨rfl,.inr ⟨⟨_,rfl⟩,HT5.out,HG2.out⟩⟩
  | true=>
  have HLF:=zH hl;have KC:=KN1 _ p _ HPS2.out hl;have hl1:=zhp hl;rw[zab] at hl1;have HL1:Hid ((rest P (p+1)).length<n):=zH (Nat.lt_of_lt_of_le hl1 HLEN.out);clear hl hl1;go_wp2_with fail
  refine KC.out.mono ?_;rintro e w3 ⟨rfl,h3,ht3⟩;have KE:=KB w3 (p+1) h3 HL1.out;have HT3:=zH (HT2.out.trans ht3);have HZ3:=zH (HZ2.out.turn ht3 (by rw[HPB.out];omega));have hg3:=HZ3.out.size;clear h3 ht3 KC;go_wp2_with fail
  refine KE.out.mono ?_;rintro e w4 (⟨t,q4,rfl,ho4,h4,ht4,hg4⟩|⟨⟨v,rfl⟩,ht4,hg4⟩)
  case inr=>
   have HG2:Hid (G=none):=zH (by rw[<-HG.out,ztm HLF.out,zab,z3m,hg4]);have HT4:=zH (HT3.out.trans ht4);clear ht4 hg4 KE;go_wp2_with fail
   exact ⟨rfl,.inr ⟨⟨_,rfl⟩,HT4.out,HG2.out⟩⟩
  have HGO:Hid (G=if mk znw (rest P q4)=true then some (toE t,(rest P q4).tail) else none):=zH (by rw[<-HG.out,ztm HLF.out,zab,z3m,hg4])
  have hs4:=ht4.size;obtain ⟨fa,fc,fa',fc',hf1,hf2⟩:=zbm ho4.good;obtain ⟨uk,ut,un,uns,uvn,uvk,uks⟩:=t;simp only[T.vn,T.vk,T.names,T.kids] at hf1 hf2;subst hf1 hf2;have hba:Below w4.heap.size w4 (w4.alloc (.cells #[.int .i64 uk,.string ut,.int .i64 un,.slice fa uns.length fc,.slice fa' uks.length fc'] 25)):=(zB _ _).alloc (zL _) _;have HO4:=zH (ho4.below hba);have HPS4:=zH (h4.below hba)
  have HT4:=zH ((HT3.out.trans ht4).below hba);have HZ4:=zH ((HZ3.out.turn ht4 (by rw[HPB.out];omega)).step hba);have HF4:=zH (zcq w4 (.int .i64 uk) (.string ut) (.int .i64 un) (.slice fa uns.length fc) (.slice fa' uks.length fc') 25);unfold agg;simp only[T.kind,T.text,T.num,T.vn,T.vk];clear h4 ht4 ho4 hg4 hba KE;cases hc:mk znw (rest P q4) with
  | false=>
   have KC:=KN0 _ q4 _ HPS4.out hc;have HG2:Hid (G=none):=zH (by rw[HGO.out,hc];rfl);clear hc;go_wp2_with fail
   refine KC.out.mono ?_;rintro e w5 ⟨⟨v,rfl⟩,hb5⟩;have HT5:=zH (HT4.out.below hb5);clear hb5;go_wp2_with fail
   exact ⟨rfl,.inr ⟨⟨_,rfl⟩,HT5.out,HG2.out⟩⟩
  | true=>
   have KC:=KN1 _ q4 _ HPS4.out hc;have HG2:Hid (G=some (toE (.mk uk ut un uns (.slice fa uns.length fc) (.slice fa' uks.length fc') uks),rest P (q4+1))):=zH (by rw[HGO.out,hc,zab];rfl);clear hc;go_wp2_with fail
   refine KC.out.mono ?_;rintro e w5 ⟨rfl,h5,ht5⟩;have HPS5:=zH h5;have HT5:=zH (HT4.out.trans ht5);have HO5:=zH (zpx HO4.out ht5 (by rw[HPB.out];omega));obtain ⟨hszz,y0,y1,y2,y3,y4,yfz⟩:=HZ4.out.turn ht5 (by rw[HPB.out];omega);obtain ⟨hs5,f0,f1,f2,f3,f4,ffz⟩:=HF4.out.turn ht5 (by rw[HPB.out];omega);clear h5 ht5 KC;go_wp2_with fail
   have hb9:=zai (zB w.heap.size w5) (B:=w.heap.size) (zL _) (.int .i64 uk) (.string ut) (.int .i64 un) (.slice fa uns.length fc) (.slice fa' uks.length fc');refine bodyPost_ret (v:=.agg #[.int .i64 uk,.string ut,.int .i64 un,.slice fa uns.length fc,.slice fa' uks.length fc']) (by simp[results,Tryz.results76,go_sem, *]) rfl ?_;exact .inl ⟨.mk uk ut un uns (.slice fa uns.length fc) (.slice fa' uks.length fc') uks,q4+1,rfl,(Own.zgq HO5.out (B:=w.heap.size) (fun hm=>by have:=HO5.out.lo _ hm;omega) _ _ _ _ _).mono (by omega),HPS5.out.low hb9 HLO.out,HT5.out.low hb9,HG2.out⟩
end ParI
end Go.Proofs.YtlmhgeanknhcfaaGreatDoor
