/-
  ParI ParNames
-/
import Derived.Test.YtbigfeblomfflaaGreatDoorB29
import Derived.Test.YtbigfeblomfflaaGreatDoorB34
import Derived.WalkLawsBesides
set_option maxHeartbeats 4000000
set_option maxRecDepth 10000
namespace Go.Proofs.YtbigfeblomfflaaGreatDoor
namespace ParI
open Go.RowKit Go.Sort
open Strs Tree Gram Placed
open Go.Proofs.YtbigfeblomfflaaGreatDoor.Parser
structure FitI (P:Cst):Prop where
 fit:Fit P
 fine:∀ t,t∈P.toks->Tok.Fine t
 full:∀ t,t∈P.toks->t.kind=1\/t.kind=6->0<t.text.size
structure IS (P:Cst) (p:Nat) (w:World):Prop where
 fit:FitI P
 size:P.pb<w.heap.size
 le:p<=P.toks.length
 c0:∃ a c,w.cell? ⟨P.pb,0,none⟩=some (.slice a (P.toks.length-p) c)/\P.toks.length-p<=c/\c<=maxLen/\(p<P.toks.length->∃ b o,P.ta=some ⟨b,o,none⟩/\a=some ⟨b,o+p*3,none⟩)
 fz:∀ o,w.frozen? ⟨P.pb,o,none⟩=false
 tok:∀ i t,P.toks[i]?=some t->∃ b o,P.ta=some ⟨b,o,none⟩/\b≠P.pb/\w.cell? ⟨b,o+i*3,none⟩=some (.int .i64 t.kind)/\w.cell? ⟨b,o+i*3+1,none⟩=some (.string t.text)/\w.cell? ⟨b,o+i*3+2,none⟩=some (.int .i64 t.num)
theorem IS.lo {P:Cst} {p:Nat} {w:World} (h:IS P p w):Lo P w.heap.size:=by
 refine ⟨h.size,fun b o hl e=>?_⟩
 obtain ⟨b',o',e',-,d,-⟩:=h.tok 0 P.toks[0] (List.getElem?_eq_getElem hl);rw[e] at e';cases e';exact cell_lt d
theorem IS.low {P:Cst} {p:Nat} {wr w':World} {base:Nat} (h:IS P p wr) (hb:Below base wr w') (hl:Lo P base):IS P p w':=by
 refine ⟨h.fit,Nat.lt_of_lt_of_le h.size hb.size,h.le,?_,fun o=>(hb.frozen (p:=⟨P.pb,o,none⟩) hl.1).trans (h.fz o),fun i t ht=>?_⟩
 ·obtain ⟨a,c,hc,r⟩:=h.c0
  exact ⟨a,c,cell_low hb hl.1 hc,r⟩
 ·obtain ⟨b,o,e,hne,d0,d1,d2⟩:=h.tok i t ht
  have hlt:=hl.2 b o (by have:=(List.getElem?_eq_some_iff.1 ht).1;omega) e
  exact ⟨b,o,e,hne,cell_low hb hlt d0,cell_low hb hlt d1,cell_low hb hlt d2⟩
theorem IS.below {P:Cst} {p:Nat} {wr w':World} (h:IS P p wr) (hb:Below wr.heap.size wr w'):IS P p w':=h.low hb h.lo
def nxt:R->Tok.T
 | []=>⟨0,none_,0⟩
 | t::_=>t
structure See (P:Cst) (p:Nat) (w:World) (t:Tok.T) (r:R) (b q c:Nat):Prop where
 c0:w.cell? ⟨P.pb,0,none⟩=some (.slice (some ⟨b,q,none⟩) (r.length+1) c)
 room:r.length+1<=c
 most:c<=maxLen
 ne:b≠P.pb
 d0:w.cell? ⟨b,q,none⟩=some (.int .i64 t.kind)
 d1:w.cell? ⟨b,q+1,none⟩=some (.string t.text)
 d2:w.cell? ⟨b,q+2,none⟩=some (.int .i64 t.num)
 few:r.length<=800
 len:t.text.size<=4000
 fine:Tok.Fine t
 lt:b<w.heap.size
theorem IS.see {P:Cst} {p:Nat} {w:World} (h:IS P p w) {t:Tok.T} {r:R} (hr:rest P p=t::r):∃ b q c,See P p w t r b q c:=by
 obtain ⟨hp,ht,hr1⟩:=rest_cons hr;obtain ⟨a,c,h1,h2,h3,h4⟩:=h.c0;obtain ⟨b,o,e,rfl⟩:=h4 hp;obtain ⟨b',o',e',hne,d0,d1,d2⟩:=h.tok p t ht;rw[e] at e';cases e'
 have hl:P.toks.length-p=r.length+1:=by have:=zar P p;rw[hr] at this;simp at this;omega
 rw[hl] at h1 h2;have h8:=h.fit.fit.len;have hm:=List.mem_of_getElem? ht;exact ⟨b,o+p*3,c,h1,h2,h3,hne,d0,d1,d2,by omega,h.fit.fit.text t hm,h.fit.fine t hm,cell_lt d0⟩
theorem IS.seeNil {P:Cst} {p:Nat} {w:World} (h:IS P p w) (hr:rest P p=[]):∃ a c,w.cell? ⟨P.pb,0,none⟩=some (.slice a 0 c):=by
 obtain ⟨a,c,h1,h2,h3,h4⟩:=h.c0
 have hl:P.toks.length-p=0:=by have:=zar P p;rw[hr] at this;simp at this;omega
 rw[hl] at h1;exact ⟨a,c,h1⟩
theorem IS.go {P:Cst} {p:Nat} {w:World} (h:IS P p w) {t:Tok.T} {r:R} (hr:rest P p=t::r) {b q c:Nat} (hs:See P p w t r b q c) (a':Option Addr) (c':Nat) (hc':c'=c-1) (ha':c≠1->a'=some ⟨b,q+3,none⟩):
  IS P (p+1) (w.setCell ⟨P.pb,0,none⟩ (.slice a' r.length c')):=by
 obtain ⟨hp,ht,hr1⟩:=rest_cons hr
 have hl:P.toks.length-(p+1)=r.length:=by have:=zar P p;rw[hr] at this;simp at this;omega
 have hroom:=hs.room;have hmost:=hs.most;refine ⟨h.fit,by simpa using h.size,hp,⟨a',c',?_,?_,?_,fun hlt=>?_⟩,fun o=>?_,fun i u hu=>?_⟩
 ·rw[hl]
  have:=hs.c0
  go_simp
 ·omega
 ·omega
 ·obtain ⟨a,c',h1,h2,h3,h4⟩:=h.c0
  obtain ⟨b',o',e,ea⟩:=h4 hp;have hc0:=hs.c0;rw[h1] at hc0
  injection hc0 with hc0
  injection hc0 with k1 k2 k3
  rw[ea] at k1;cases k1;refine ⟨b,o',e,?_⟩;rw[ha' (by omega)]
  congr 2
  omega
 ·have:=h.fz o
  go_simp
 ·obtain ⟨b',o',e,hne,d0,d1,d2⟩:=h.tok i u hu
  exact ⟨b',o',e,hne,other _ _ _ _ _ _ _ (.inl hne) d0,other _ _ _ _ _ _ _ (.inl hne) d1,other _ _ _ _ _ _ _ (.inl hne) d2⟩
def Dead (e:Ending):Prop:=∃ v,e=.panicked [{ v:=.iface 9 v,recovered:=false }]
theorem next_any {P:Cst} {p:Nat} {w:World} (h:IS P p w):
  Calls Tryz.prog 112 #[.pointer (some ⟨P.pb,0,none⟩)] w fun e w'=>e=.returned (.agg #[.int .i64 (nxt (rest P p)).kind,.string (nxt (rest P p)).text,.int .i64 (nxt (rest P p)).num])/\Below w.heap.size w w':=by
 have hpb:=h.size;cases hr:rest P p with
 | nil=>
  obtain ⟨a,c,c0⟩:=h.seeNil hr;clear h hr;generalize P.pb=pb at *;go_enter Tryz.func112,Tryz.ntmps112;go_wp2_with fail
  refine bodyPost_ret (v:=.agg #[.int .i64 0,.string ⟨#[]⟩,.int .i64 0]) (by simp[results,Tryz.results112,go_sem, *]) rfl ⟨rfl,(zB _ _).alloc (zL _) _⟩
 | cons t r=>
  obtain ⟨b,q,c,c0,room,most,ne,d0,d1,d2,few,len,-,hbl⟩:=h.see hr;clear h hr;generalize P.pb=pb at *;generalize htk:t.kind=tk at *;generalize htt:t.text=tt at *;generalize htn:t.num=tn at *;replace htk:=zH htk;replace htt:=zH htt;replace htn:=zH htn;unfold maxLen at most;generalize r.length=n at *;go_enter Tryz.func112,Tryz.ntmps112;go_wp2_with fail
  refine bodyPost_ret (v:=.agg #[.int .i64 tk,.string tt,.int .i64 tn]) (by simp[results,Tryz.results112,go_sem, *]) rfl ⟨?_,(zB _ _).alloc (zL _) _⟩;rw[<-htk.out,<-htt.out,<-htn.out];rfl
theorem mark_any (s:ByteArray) (w:World):
  Calls Tryz.prog 113 #[.string s] w fun e w'=>e=.returned (.agg #[.int .i64 7,.string s,.int .i64 0])/\Below w.heap.size w w':=by
 go_enter Tryz.func113,Tryz.ntmps113;go_wp2_with fail
 refine bodyPost_ret (v:=.agg #[.int .i64 7,.string s,.int .i64 0]) (by simp[results,Tryz.results113,go_sem, *]) rfl ⟨rfl,(zB _ _).alloc (zL _) _⟩
theorem hd_some {k:Int} {r:R} (h:hd k r=true):∃ t r',r=t::r'/\t.kind=k:=by
 cases r with
 | nil=>cases h
 | cons t r=>exact ⟨t,r,rfl,of_decide_eq_true h⟩
theorem nxt_no {k:Int} {r:R} (hk:k≠0) (h:hd k r=false):((nxt r).kind==k)=false:=by
 rw[kind_eq,decide_eq_false_iff_not];cases r with
 | nil=>exact fun e=>hk e.symm
 | cons t r=>exact of_decide_eq_false h
theorem take_yes {P:Cst} {p:Nat} {w:World} (h:IS P p w) {k:Int} (hk:hd k (rest P p)=true):
  Calls Tryz.prog 108 #[.pointer (some ⟨P.pb,0,none⟩),.int .i64 k] w fun e w'=>e=.returned (.string (txt (rest P p)))/\IS P (p+1) w'/\Turn P w w':=by
 obtain ⟨t,r,hr,rfl⟩:=hd_some hk;have K:=zH (next_any h);have H:=zH h;have hpb:=h.size;have HR:=zH hr;have hx:txt (rest P p)=t.text:=by rw[hr];rfl
 have hn:nxt (rest P p)=t:=by rw[hr];rfl
 rw[hn] at K;rw[hx];clear h hr hk hx hn;generalize hpbq:P.pb=pb at *;have HPB:=zH hpbq;clear hpbq;go_enter Tryz.func108,Tryz.ntmps108;go_wp2_with fail
 refine K.out.mono ?_;rintro e w1 ⟨rfl,hb⟩;have hw1:=hb.size;have hba:Below w1.heap.size w1 (w1.alloc (.cells #[.int .i64 t.kind,.string t.text,.int .i64 t.num] 82)):=(zB _ _).alloc (zL _) _;have h2:=(H.out.below hb).below hba;have HT2:=zH (((Turn.refl P w).low hb).low (hba.mono hw1));obtain ⟨b,q,c,hs⟩:=h2.see HR.out;have HGO:=zH (fun a' c' e1 e2=>h2.go HR.out hs a' c' e1 e2)
 have fz:=h2.fz 0;obtain ⟨c0,room,most,ne,d0,d1,d2,few,len,-,hbl⟩:=hs;rw[HPB.out] at c0 fz HGO;unfold maxLen at most;clear h2 hb hba K d0 d1 d2 ne hbl;have HTS:=zH (fun v=>HT2.out.set 0 v)
 rw[HPB.out] at HTS;generalize r.length=n at *;by_cases hc1:c=1
 ·subst hc1
  obtain rfl:n=0:=by omega
  go_wp2_with fail
  go_ret;exact ⟨rfl,HGO.out _ _ rfl (fun h=>absurd rfl h),HTS.out _⟩
 ·go_wp2_with fail
  go_ret;exact ⟨rfl,HGO.out _ _ rfl (fun _=>rfl),HTS.out _⟩
theorem mk_nxt {s:ByteArray} {r:R} (h:mk s r=true) (hf:∀ t,t∈r->Tok.Fine t):∃ r',r=⟨7,s,0⟩::r':=by
 cases r with
 | nil=>cases h
 | cons t r=>simp only[mk,Bool.and_eq_true,decide_eq_true_eq] at h;have h7:=(hf t (by simp)).seven h.1;obtain ⟨k,x,n⟩:=t;simp only at h h7;obtain ⟨rfl,rfl⟩:=h;subst h7;exact ⟨r,rfl⟩
theorem nxt_mark {s:ByteArray} {r:R} (h:mk s r=false):(nxt r).kind=7->¬(nxt r).text.toList=s.toList:=by
 cases r with
 | nil=>intro e;exact absurd e (by decide)
 | cons t r=>intro e e2;simp only[nxt] at e e2;rw[ByteArray.toList_eq,ByteArray.toList_eq] at e2;have:t.text=s:=ByteArray.ext (Array.ext' e2);simp[mk,e,this] at h
theorem fine_rest {P:Cst} {p:Nat} {w:World} (h:IS P p w):∀ t,t∈rest P p->Tok.Fine t:=fun t ht=>h.fit.fine t (List.mem_of_mem_drop ht)
theorem take_no {P:Cst} {p:Nat} {w:World} (h:IS P p w) {k:Int} (hk0:k≠0) (hk:hd k (rest P p)=false):
  Calls Tryz.prog 108 #[.pointer (some ⟨P.pb,0,none⟩),.int .i64 k] w fun e w'=>Dead e/\Below w.heap.size w w':=by
 have K:=zH (next_any h);have hpb:=h.size;have e1:=nxt_no hk0 hk;have e2:((nxt (rest P p)).kind != k)=true:=by simp[bne,e1]
 clear h hk hk0;generalize nxt (rest P p)=t at *;generalize t.kind=tk at *;generalize P.pb=pb at *;go_enter Tryz.func108,Tryz.ntmps108;go_wp2_with fail
 refine K.out.mono ?_;rintro e w1 ⟨rfl,hb⟩;have HB:=zH (hb.alloc hb.size (.cells #[.int .i64 tk,.string t.text,.int .i64 t.num] 82));clear hb;go_wp2_with fail
 exact ⟨rfl,⟨_,rfl⟩,HB.out⟩
theorem regrownB {w w':World} (h:∃ p:Regrown,w'=Sort.grow (redrawn w p.d) p.os):Below w.heap.size w w':=by obtain ⟨p,rfl⟩:=h;exact below_regrown _ _ _
structure TokC (B:Nat) (k:Int) (s:ByteArray) (n:Int) (w:World):Prop where
 size:B<w.heap.size
 c0:w.cell? ⟨B,0,none⟩=some (.int .i64 k)
 c1:w.cell? ⟨B,1,none⟩=some (.string s)
 c2:w.cell? ⟨B,2,none⟩=some (.int .i64 n)
theorem tok_new (w:World) (k:Int) (s:ByteArray) (n:Int):TokC w.heap.size k s n (w.alloc (.cells #[.int .i64 k,.string s,.int .i64 n] 82)):=⟨by simp,by go_simp,by go_simp,by go_simp⟩
theorem tok_yes {P:Cst} {p:Nat} {w:World} (h:IS P p w) {k:Int} {s:ByteArray} {r:R} (hr:rest P p=⟨k,s,0⟩::r):
  Calls Tryz.prog 173 #[.pointer (some ⟨P.pb,0,none⟩),.agg #[.int .i64 k,.string s,.int .i64 0]] w fun e w'=>e=.returned (.bool true)/\IS P (p+1) w'/\Turn P w w':=by
 have hba:Below w.heap.size w (w.alloc (.cells #[.int .i64 k,.string s,.int .i64 0] 82)):=(zB _ _).alloc (zL _) _;have h1:=h.below hba;have hn:nxt (rest P p)=⟨k,s,0⟩:=by rw[hr];rfl
 have KX:=fun d os=>zH (Calls.regrown_of (w:=w.alloc (.cells #[.int .i64 k,.string s,.int .i64 0] 82)) (d:=d) (os:=os) (next_any (h1.below (below_regrown _ d os))))
 rw[hn] at KX;have H:=zH h1;have htk:=tok_new w k s 0;have t0:=cell_regrown htk.c0;have t1:=cell_regrown htk.c1;have t2:=cell_regrown htk.c2;have HT0:=zH ((Turn.refl P w).low hba);have hpb:=h.size;have HR:=zH hr;clear h hr hn hba h1 htk;generalize hpbq:P.pb=pb at *;have HPB:=zH hpbq;clear hpbq;go_enter Tryz.func173,Tryz.ntmps173;go_wp2_with fail
 refine wp_region_quiet_below (by kernel_rfl) (by kernel_rfl) ?_
 repeat (go_big_quiet_step ((go_at_call 112;exact (KX _ _).out)))
 refine wpQuiet_nil ?_;intro w1 hw1;have hb1:=regrownB hw1;clear hw1 t0 t1 t2;have h2:=H.out.below hb1;have HT2:=zH (HT0.out.below hb1);obtain ⟨b,q,c,hs⟩:=h2.see HR.out;have HGO:=zH (fun a' c' e1 e2=>h2.go HR.out hs a' c' e1 e2)
 have fz:=h2.fz 0;obtain ⟨c0,room,most,ne,d0,d1,d2,few,len,-,hbl⟩:=hs;rw[HPB.out] at c0 fz HGO;unfold maxLen at most;clear h2 hb1 KX d0 d1 d2 ne hbl;have HTS:=zH (fun v=>HT2.out.set 0 v)
 rw[HPB.out] at HTS;generalize r.length=n at *;by_cases hc1:c=1
 ·subst hc1
  obtain rfl:n=0:=by omega
  go_wp2_with fail
  go_ret;exact ⟨rfl,HGO.out _ _ rfl (fun h=>absurd rfl h),HTS.out _⟩
 ·go_wp2_with fail
  go_ret;exact ⟨rfl,HGO.out _ _ rfl (fun _=>rfl),HTS.out _⟩
theorem tok_no {P:Cst} {p:Nat} {w:World} (h:IS P p w) {k:Int} {s:ByteArray} (hk:(nxt (rest P p)).kind=k->¬(nxt (rest P p)).text.toList=s.toList):
  Calls Tryz.prog 173 #[.pointer (some ⟨P.pb,0,none⟩),.agg #[.int .i64 k,.string s,.int .i64 0]] w fun e w'=>e=.returned (.bool false)/\Below w.heap.size w w':=by
 have hba:Below w.heap.size w (w.alloc (.cells #[.int .i64 k,.string s,.int .i64 0] 82)):=(zB _ _).alloc (zL _) _;have KX:=fun d os=>zH (Calls.regrown_of (w:=w.alloc (.cells #[.int .i64 k,.string s,.int .i64 0] 82)) (d:=d) (os:=os) (next_any ((h.below hba).below (below_regrown _ d os))))
 have htk:=tok_new w k s 0;have t0:=cell_regrown htk.c0;have t1:=cell_regrown htk.c1;have t2:=cell_regrown htk.c2;have HB:=zH hba;have hpb:=h.size;have HM:=zH hk;clear h hk hba htk;generalize nxt (rest P p)=t at *;obtain ⟨tk,tt,tn⟩:=t;generalize P.pb=pb at *;by_cases h7:tk=k
 ·subst h7
  have h8:=HM.out rfl;clear HM;simp only at h8;go_enter Tryz.func173,Tryz.ntmps173;go_wp2_with fail
  refine wp_region_quiet_below (by kernel_rfl) (by kernel_rfl) ?_
  repeat (go_big_quiet_step ((go_at_call 112;exact (KX _ _).out)))
  refine wpQuiet_nil ?_;intro w1 hw1;have hb1:=regrownB hw1;clear hw1 t0 t1 t2;have HB1:=zH (HB.out.trans (hb1.mono HB.out.size));clear hb1;go_wp2_with fail
  go_ret;exact ⟨rfl,HB1.out⟩
 ·clear HM
  go_enter Tryz.func173,Tryz.ntmps173;go_wp2_with fail
  refine wp_region_quiet_below (by kernel_rfl) (by kernel_rfl) ?_
  repeat (go_big_quiet_step ((go_at_call 112;exact (KX _ _).out)))
  refine wpQuiet_nil ?_;intro w1 hw1;have hb1:=regrownB hw1;clear hw1 t0 t1 t2;have HB1:=zH (HB.out.trans (hb1.mono HB.out.size));clear hb1;go_wp2_with fail
  go_ret;exact ⟨rfl,HB1.out⟩
theorem skip_yes {P:Cst} {p:Nat} {w:World} (h:IS P p w) {s:ByteArray} (hk:mk s (rest P p)=true):
  Calls Tryz.prog 164 #[.pointer (some ⟨P.pb,0,none⟩),.string s] w fun e w'=>e=.returned (.bool true)/\IS P (p+1) w'/\Turn P w w':=by
 obtain ⟨r,hr⟩:=mk_nxt hk (fine_rest h);have KM:=zH (mark_any s w);have KT:=fun w1 (hb:Below w.heap.size w w1)=>zH (tok_yes (h.below hb) hr)
 have HT0:=zH (fun w1 (hb:Below w.heap.size w w1)=>(Turn.refl P w).low hb)
 clear h hk;generalize hpbq:P.pb=pb at *;go_enter Tryz.func164,Tryz.ntmps164;go_wp2_with fail
 refine KM.out.mono ?_;rintro e w0 ⟨rfl,hb0⟩;have KT1:=KT w0 hb0;have HT1:=zH (HT0.out w0 hb0);clear hb0 KT HT0;go_wp2_with fail
 refine KT1.out.mono ?_;rintro e w1 ⟨rfl,h1,ht1⟩;have H1:=zH h1;have HT2:=zH (HT1.out.trans ht1);clear h1 ht1;go_wp2_with fail
 go_ret;exact ⟨rfl,H1.out,HT2.out⟩
theorem skip_no {P:Cst} {p:Nat} {w:World} (h:IS P p w) {s:ByteArray} (hk:mk s (rest P p)=false):
  Calls Tryz.prog 164 #[.pointer (some ⟨P.pb,0,none⟩),.string s] w fun e w'=>e=.returned (.bool false)/\Below w.heap.size w w':=by
 have KM:=zH (mark_any s w);have KT:=fun w1 (hb:Below w.heap.size w w1)=>zH (tok_no (h.below hb) (nxt_mark hk))
 clear h hk;generalize hpbq:P.pb=pb at *;go_enter Tryz.func164,Tryz.ntmps164;go_wp2_with fail
 refine KM.out.mono ?_;rintro e w0 ⟨rfl,hb0⟩;have KT1:=KT w0 hb0;have HB0:=zH hb0;clear hb0 KT;go_wp2_with fail
 refine KT1.out.mono ?_;rintro e w1 ⟨rfl,hb1⟩;have HB1:=zH (HB0.out.trans (hb1.mono HB0.out.size));clear hb1;go_wp2_with fail
 go_ret;exact ⟨rfl,HB1.out⟩
theorem need_yes {P:Cst} {p:Nat} {w:World} (h:IS P p w) {s:ByteArray} (hk:mk s (rest P p)=true):
  Calls Tryz.prog 109 #[.pointer (some ⟨P.pb,0,none⟩),.string s] w fun e w'=>e=.returned (.tuple #[])/\IS P (p+1) w'/\Turn P w w':=by
 have K:=zH (skip_yes h hk);clear h hk;generalize hpbq:P.pb=pb at *;go_enter Tryz.func109,Tryz.ntmps109;go_wp2_with fail
 refine K.out.mono ?_;rintro e w1 ⟨rfl,h1⟩;replace h1:=zH h1;go_wp2_with fail
 go_end0
 exact ⟨rfl,h1.out⟩
theorem need_no {P:Cst} {p:Nat} {w:World} (h:IS P p w) {s:ByteArray} (hk:mk s (rest P p)=false):
  Calls Tryz.prog 109 #[.pointer (some ⟨P.pb,0,none⟩),.string s] w fun e w'=>Dead e/\Below w.heap.size w w':=by
 have K:=zH (skip_no h hk);clear h hk;generalize hpbq:P.pb=pb at *;go_enter Tryz.func109,Tryz.ntmps109;go_wp2_with fail
 refine K.out.mono ?_;rintro e w1 ⟨rfl,h1⟩;replace h1:=zH h1;go_wp2_with fail
 exact ⟨rfl,⟨_,rfl⟩,h1.out⟩
theorem field0 (a b c:Value) (w:World):Sem.run Tryz.prog (Instr.field 82 (.agg #[a,b,c]) 0) w=.ok a w:=by simp[Instr.field,go_sem];rfl
end ParI
namespace ParI
open Go.RowKit
open Strs Tree Gram Placed
open Go.Proofs.YtbigfeblomfflaaGreatDoor.Parser
def lft (pb:Nat) (w:World):Nat:=match w.cell? ⟨pb,0,none⟩ with|some (.slice _ n _)=>n|_=>0
theorem IS.lft {P:Cst} {p:Nat} {w:World} (h:IS P p w):lft P.pb w=P.toks.length-p:=by obtain ⟨a,c,h1,-⟩:=h.c0;unfold ParI.lft;rw[h1]
def sx:R->Bool
 | []=>false
 | t::_=>decide (t.kind=1)||decide (t.kind=3)||decide (t.kind=4)||decide (t.kind=5)||(decide (t.kind=7)&&(decide (t.text=cOpen)||decide (t.text=cLeft)))
theorem begins_sx (r:R) (hf:∀ t,t∈r->Tok.Fine t):begins r=(sx r||mk cHat r):=by
 cases r with
 | nil=>rfl
 | cons t r=>
  have hk:=(hf t (by simp)).kind;rw[begins,sx,mk];obtain ⟨k,x,n⟩:=t;simp only at hk ⊢;have:k=1\/k=2\/k=3\/k=4\/k=5\/k=6\/k=7\/k=8:=by omega
  rcases this with rfl|rfl|rfl|rfl|rfl|rfl|rfl|rfl<;>simp
theorem sx_hat (r:R) (h:sx r=true):mk cHat r=false:=by
 cases r with
 | nil=>cases h
 | cons t r=>
  rw[sx] at h;rw[mk];by_cases h7:t.kind=7
  ·rw[h7] at h
   simp at h;rcases h with h|h
   ·rw[h];simp;intro _ e;exact absurd e (by decide)
   ·rw[h];simp;intro _ e;exact absurd e (by decide)
  ·simp[h7]
def TBack (P:Cst) (w:World) (g:Option (List ByteArray×R)) (e:Ending) (w':World):Prop:=
 (∃ v ts q,e=.returned v/\w'.ownsRow w.heap.size 9 1 v ts.length (ts.map Value.string)/\ts.length<=800/\(∀ x,x∈ts->x.size<=maxLen)/\IS P q w'/\Turn P w w'/\g=some (ts,rest P q))\/(Dead e/\Turn P w w'/\g=none)
def pars (r:R):Option (List ByteArray×R):=
 match parLoop [] r with
 | none=>none
 | some (ps,r1)=>if ps.length=0 then some (ps,r1) else if mk cBar r1 then some (ps,r1.tail) else none
theorem hd_lt' {P:Cst} {p:Nat} {k:Int} (h:hd k (rest P p)=true):p<P.toks.length:=by obtain ⟨t,r,hr,-⟩:=hd_some h;exact (rest_cons hr).1
theorem mk_lt' {P:Cst} {p:Nat} {s:ByteArray} (h:mk s (rest P p)=true):p<P.toks.length:=by have:=tail_lt h;rw[zak,zar,zar] at this;omega
theorem parameters_any {P:Cst} {p:Nat} {w:World} (h:IS P p w):
  Calls Tryz.prog 202 #[.pointer (some ⟨P.pb,0,none⟩)] w (TBack P w (pars (rest P p))):=by
 obtain ⟨i0,hi,hz0,hz1,hz2⟩:=info_parts infoS;have KS1:=fun (w1:World) (q:Nat) (h1:IS P q w1) (s:ByteArray) (hb:mk s (rest P q)=true)=>zH (skip_yes h1 hb)
 have KS0:=fun (w1:World) (q:Nat) (h1:IS P q w1) (s:ByteArray) (hb:mk s (rest P q)=false)=>zH (skip_no h1 hb)
 have KT1:=fun (w1:World) (q:Nat) (h1:IS P q w1) (hb:hd 1 (rest P q)=true)=>zH (take_yes h1 hb)
 have KT0:=fun (w1:World) (q:Nat) (h1:IS P q w1) (hb:hd 1 (rest P q)=false)=>zH (take_no h1 (by decide) hb)
 have KN1:=fun (w1:World) (q:Nat) (h1:IS P q w1) (s:ByteArray) (hb:mk s (rest P q)=true)=>zH (need_yes h1 hb)
 have KN0:=fun (w1:World) (q:Nat) (h1:IS P q w1) (s:ByteArray) (hb:mk s (rest P q)=false)=>zH (need_no h1 hb)
 have H:=zH h;have HLO:=zH h.lo;have hpbl:=h.size;have h8:=h.fit.fit.len;have hpl:=h.le;have HF:=zH h.fit.fit;clear h;generalize hG:pars (rest P p)=G;have HG:=zH hG;clear hG;generalize hpb:P.pb=pb at *;generalize hN:P.toks.length=N at *;have HPB:=zH hpb;clear hpb;have HN:=zH hN;clear hN;go_enter Tryz.func202,Tryz.ntmps202;go_wp2_with fail
 go_loopw [3] (fun v wr=>∃ (ts:List ByteArray) (q:Nat),ts.length<=q/\(∀ x,x∈ts->x.size<=maxLen)/\parLoop [] (rest P p)=parLoop ts (rest P q)/\IS P q wr/\Turn P w wr/\wr.ownsRow w.heap.size 9 1 v ts.length (ts.map Value.string)) (fun _ wr=>lft pb wr)
 case atStart=>exact ⟨[],p,Nat.zero_le _,(fun _ h=>nomatch h),rfl,H.out,Turn.refl P w,World.ownsRow_nil _ _ _ _⟩
 case round=>
  obtain ⟨ts,q,hlen,hsz,hgo,hps,htr,hown⟩:=hrel;have HGO:=zH hgo;clear hgo;have HSZ:=zH hsz;clear hsz;have HPS:=zH hps;have hqN:=hps.le;rw[HN.out] at hqN;have hpl2:=hps.lft;rw[HPB.out,HN.out] at hpl2;have hpl3:=zH hpl2;have hgw:w.heap.size<=wr.heap.size:=htr.size;clear hps hpl2;have HTR:=zH htr;clear htr;obtain ⟨ra,rc,rfl⟩:=Kit.zax hown;have HO1:=zH hown;clear hown
  cases hb:mk cColon (rest P q) with
  | false=>
   have KS:=KS0 wr q HPS.out _ hb;have HL:Hid (parLoop [] (rest P p)=some (ts,rest P q)):=zH (HGO.out.trans (par_stop hb));clear hb;go_wp2_with fail
   refine KS.out.mono ?_;rintro e w2 ⟨rfl,hb2⟩;have HPS2:=zH (HPS.out.below hb2);have HT2:=zH (HTR.out.below hb2);have HO2:=zH (own_keep HO1.out hb2);clear hb2 KS;cases ts with
   | nil=>
    have HG2:Hid (G=some ([],rest P q)):=zH (by rw[<-HG.out];unfold pars;rw[HL.out];rfl);go_wp2_with fail
    go_ret;exact .inl ⟨_,[],q,rfl,HO2.out,Nat.zero_le _,(fun _ h=>nomatch h),HPS2.out,HT2.out,HG2.out⟩
   | cons x xs=>
    have hpos:(0:Int)<(((x::xs).length:Nat):Int):=by simp
    have hne:¬(x::xs).length=0:=by simp
    generalize hxs:x::xs=ys at *;clear hxs;cases hb2:mk cBar (rest P q) with
    | false=>
     have KN:=KN0 w2 q HPS2.out _ hb2;have HG2:Hid (G=none):=zH (by rw[<-HG.out];unfold pars;rw[HL.out];simp only;rw[if_neg hne,hb2];rfl);clear hb2 hne;go_wp2_with fail
     refine KN.out.mono ?_;rintro e w3 ⟨⟨v,rfl⟩,hb3⟩;have HT3:=zH (HT2.out.below hb3);clear hb3;go_wp2_with fail
     exact ⟨rfl,.inr ⟨⟨_,rfl⟩,HT3.out,HG2.out⟩⟩
    | true=>
     have KN:=KN1 w2 q HPS2.out _ hb2;have HG2:Hid (G=some (ys,rest P (q+1))):=zH (by rw[<-HG.out];unfold pars;rw[HL.out];simp only;rw[if_neg hne,hb2,zak];rfl);have hq1:=mk_lt' hb2;rw[HN.out] at hq1;clear hb2 hne;go_wp2_with fail
     refine KN.out.mono ?_;rintro e w3 ⟨rfl,h3,ht3⟩;have H3:=zH h3;have HT3:=zH (HT2.out.trans ht3);have HO3:=zH (own_turn HO2.out ht3 (by rw[HPB.out];exact hpbl));clear h3 ht3;go_wp2_with fail
     go_ret;exact .inl ⟨_,ys,q+1,rfl,HO3.out,by omega,HSZ.out,H3.out,HT3.out,HG2.out⟩
  | true=>
   have KS:=KS1 wr q HPS.out _ hb;have HB:=zH hb;clear hb;go_wp2_with fail
   refine KS.out.mono ?_;rintro e w2 ⟨rfl,h2,ht2⟩;have HPS2:=zH h2;have HT2:=zH (HTR.out.trans ht2);have HO2:=zH (own_turn HO1.out ht2 (by rw[HPB.out];exact hpbl));clear h2 ht2 KS;cases hb2:hd 1 (rest P (q+1)) with
   | false=>
    have KT:=KT0 w2 (q+1) HPS2.out hb2;have HG2:Hid (G=none):=zH (by rw[<-HG.out];unfold pars;rw[HGO.out,par_no HB.out (by rw[zak];exact hb2)])
    clear hb2;go_wp2_with fail
    refine KT.out.mono ?_;rintro e w3 ⟨⟨v,rfl⟩,hb3⟩;have HT3:=zH (HT2.out.below hb3);clear hb3;go_wp2_with fail
    exact ⟨rfl,.inr ⟨⟨_,rfl⟩,HT3.out,HG2.out⟩⟩
   | true=>
    have KT:=KT1 w2 (q+1) HPS2.out hb2;have HL:=zH (HGO.out.trans (par_go HB.out (by rw[zak];exact hb2)));rw[zak,zak] at HL;have hq2:=hd_lt' hb2;rw[HN.out] at hq2;have HX:Hid ((txt (rest P (q+1))).size<=maxLen):=zH (Nat.le_trans (text_le HF.out) (by unfold maxLen;omega));clear hb2;generalize hx:txt (rest P (q+1))=x at *;clear hx;go_wp2_with fail
    refine KT.out.mono ?_;rintro e w3 ⟨rfl,h3,ht3⟩;have H3:=zH h3;have HT3:=zH (HT2.out.trans ht3);have HO3:=zH (own_turn HO2.out ht3 (by rw[HPB.out];exact hpbl));have hg3:w.heap.size<=w3.heap.size:=HT3.out.size;clear h3 ht3 KT;go_wp2_with (at_builtin;go_must (refine wpList_append_own _ rfl _ _ 24 rfl w.heap.size 9 i0 (.string ByteArray.empty) 1 16 Tryz.underlying24 hi hz0 hz1 hz2 rfl (by decide) _ _ _ rfl (HO3.out.alloc _) ⟨w3.heap.size,0,none⟩ 1 1 [.string x] rfl rfl ?c1 ?c2 ?c3 ?c4 ?c5 ?_))
    case c1=>exact Kit.one_cells _ _ _
    case c2=>exact Kit.one_str _
    case c3=>unfold maxLen;omega
    case c4=>omega
    case c5=>simp;omega
    intro v' w4 hown' hgr _;have HOWN:=zH hown';have HLW:=zH (app_low hg3 HO3.out hgr);clear hown' hgr;go_wp2_with fail
    go_roundw
    case rel=>
     refine ⟨ts++[x],q+1+1,by simp;omega,?_,HL.out,H3.out.low HLW.out HLO.out,HT3.out.low HLW.out,by simpa using HOWN.out⟩
     intro y hy;rcases List.mem_append.1 hy with hy|hy
     ·exact HSZ.out y hy
     ·rw[List.mem_singleton.1 hy];exact HX.out
    case measure=>have h1:=(H3.out.low HLW.out HLO.out).lft;rw[HPB.out,HN.out] at h1;rw[h1,hpl3.out];omega
theorem names_stop2 {ts:List ByteArray} {r:R} (h:hd 1 r=false):nameLoop ts r=(ts,r):=by
 cases r with
 | nil=>rfl
 | cons t r=>rw[nameLoop,if_neg (of_decide_eq_false h)]
theorem names_go2 {ts:List ByteArray} {r:R} (h:hd 1 r=true):nameLoop ts r=nameLoop (ts++[txt r]) r.tail:=by obtain ⟨t,r',rfl,hk⟩:=hd_some h;rw[nameLoop,if_pos hk];rfl
def NBack (P:Cst) (w:World) (g:List ByteArray×R) (e:Ending) (w':World):Prop:=
 ∃ v ts q,e=.returned v/\w'.ownsRow w.heap.size 9 1 v ts.length (ts.map Value.string)/\ts.length<=800/\(∀ x,x∈ts->x.size<=maxLen)/\IS P q w'/\Turn P w w'/\g=(ts,rest P q)
theorem own_mono {w:World} {base base':Nat} {e:TypeId} {size:Nat} {v:Value} {n:Nat} {xs:List Value} (h:w.ownsRow base e size v n xs) (hb:base'<=base):w.ownsRow base' e size v n xs:=own_base h fun b k=>Nat.le_trans hb (own_blk h b k).1
theorem names_any {P:Cst} {p:Nat} {w:World} (h:IS P p w):
  Calls Tryz.prog 174 #[.pointer (some ⟨P.pb,0,none⟩)] w (NBack P w (nameLoop [] (rest P p))):=by
 obtain ⟨i0,hi,hz0,hz1,hz2⟩:=info_parts infoS;have hfd:=field0;have KT1:=fun (w1:World) (q:Nat) (h1:IS P q w1) (hb:hd 1 (rest P q)=true)=>zH (take_yes h1 hb)
 have KX:=fun (w1:World) (q:Nat) (h1:IS P q w1)=>zH (next_any h1)
 have H:=zH h;have HLO:=zH h.lo;have hpbl:=h.size;have h8:=h.fit.fit.len;have hpl:=h.le;have HF:=zH h.fit.fit;generalize hG:nameLoop [] (rest P p)=G;have HG:=zH hG;clear hG;clear h;generalize hpb:P.pb=pb at *;generalize hN:P.toks.length=N at *;have HPB:=zH hpb;clear hpb;have HN:=zH hN;clear hN;go_enter Tryz.func174,Tryz.ntmps174;go_wp2_with fail
 go_loopw [3] (fun v wr=>∃ (ts:List ByteArray) (q:Nat),ts.length<=q/\(∀ x,x∈ts->x.size<=maxLen)/\nameLoop [] (rest P p)=nameLoop ts (rest P q)/\IS P q wr/\Turn P w wr/\wr.ownsRow w.heap.size 9 1 v ts.length (ts.map Value.string)) (fun _ wr=>lft pb wr)
 case atStart=>exact ⟨[],p,Nat.zero_le _,(fun _ h=>nomatch h),rfl,H.out,Turn.refl P w,World.ownsRow_nil _ _ _ _⟩
 case round=>
  obtain ⟨ts,q,hlen,hsz,hgo,hps,htr,hown⟩:=hrel;have HGO:=zH hgo;clear hgo;have HSZ:=zH hsz;clear hsz;have HPS:=zH hps;have hqN:=hps.le;rw[HN.out] at hqN;have hpl2:=hps.lft;rw[HPB.out,HN.out] at hpl2;have hpl3:=zH hpl2;have hgw:w.heap.size<=wr.heap.size:=htr.size;clear hps hpl2;have HTR:=zH htr;clear htr;obtain ⟨ra,rc,rfl⟩:=Kit.zax hown;have HO1:=zH hown;clear hown
  have KX1:=KX wr q HPS.out;cases hb:hd 1 (rest P q) with
  | false=>
   have e1:=nxt_no (k:=1) (by decide) hb;have HG2:Hid (G=(ts,rest P q)):=zH (HG.out.symm.trans (HGO.out.trans (names_stop2 hb)));clear hb;generalize nxt (rest P q)=t at *;go_wp2_with fail
   refine KX1.out.mono ?_;rintro e w2 ⟨rfl,hb2⟩;have HPS2:=zH (HPS.out.below hb2);have HT2:=zH (HTR.out.below hb2);have HO2:=zH (own_keep HO1.out hb2);clear hb2 KX1;go_wp2_with fail
   go_ret;exact ⟨_,ts,q,rfl,HO2.out,by omega,HSZ.out,HPS2.out,HT2.out,HG2.out⟩
  | true=>
   obtain ⟨t,r,hr,hk⟩:=hd_some hb;have HL:=zH (HGO.out.trans (names_go2 hb));rw[zak] at HL;have hq2:=hd_lt' hb;rw[HN.out] at hq2;have HX:Hid ((txt (rest P q)).size<=maxLen):=zH (Nat.le_trans (text_le HF.out) (by unfold maxLen;omega));have HB:=zH hb;have e1:((nxt (rest P q)).kind==1)=true:=by rw[hr];show (t.kind==1)=true;rw[hk];rfl
   clear hb hr hk;generalize hx:txt (rest P q)=x at *;have HXE:=zH hx;clear hx;generalize nxt (rest P q)=t at *;go_wp2_with fail
   refine KX1.out.mono ?_;rintro e w2 ⟨rfl,hb2⟩;have HPS2:=zH (HPS.out.below hb2);have HT2:=zH (HTR.out.below hb2);have HO2:=zH (own_keep HO1.out hb2);have KT:=KT1 w2 q HPS2.out HB.out;rw[HXE.out] at KT;clear hb2 KX1;go_wp2_with fail
   refine KT.out.mono ?_;rintro e w3 ⟨rfl,h3,ht3⟩;have H3:=zH h3;have HT3:=zH (HT2.out.trans ht3);have HO3:=zH (own_turn HO2.out ht3 (by rw[HPB.out];exact hpbl));have hg3:w.heap.size<=w3.heap.size:=HT3.out.size;clear h3 ht3 KT;go_wp2_with (at_builtin;go_must (refine wpList_append_own _ rfl _ _ 24 rfl w.heap.size 9 i0 (.string ByteArray.empty) 1 16 Tryz.underlying24 hi hz0 hz1 hz2 rfl (by decide) _ _ _ rfl (HO3.out.alloc _) ⟨w3.heap.size,0,none⟩ 1 1 [.string x] rfl rfl ?c1 ?c2 ?c3 ?c4 ?c5 ?_))
   case c1=>exact Kit.one_cells _ _ _
   case c2=>exact Kit.one_str _
   case c3=>unfold maxLen;omega
   case c4=>omega
   case c5=>simp;omega
   intro v' w4 hown' hgr _;have HOWN:=zH hown';have HLW:=zH (app_low hg3 HO3.out hgr);clear hown' hgr;go_wp2_with fail
   go_roundw
   case rel=>
    refine ⟨ts++[x],q+1,by simp;omega,?_,HL.out,H3.out.low HLW.out HLO.out,HT3.out.low HLW.out,by simpa using HOWN.out⟩
    intro y hy;rcases List.mem_append.1 hy with hy|hy
    ·exact HSZ.out y hy
    ·rw[List.mem_singleton.1 hy];exact HX.out
   case measure=>have h1:=(H3.out.low HLW.out HLO.out).lft;rw[HPB.out,HN.out] at h1;rw[h1,hpl3.out];omega
theorem variables_any {P:Cst} {p:Nat} {w:World} (h:IS P p w):
  Calls Tryz.prog 175 #[.pointer (some ⟨P.pb,0,none⟩)] w (TBack P w (names (rest P p))):=by
 have KN1:=fun (w1:World) (q:Nat) (h1:IS P q w1) (s:ByteArray) (hb:mk s (rest P q)=true)=>zH (need_yes h1 hb)
 have KN0:=fun (w1:World) (q:Nat) (h1:IS P q w1) (s:ByteArray) (hb:mk s (rest P q)=false)=>zH (need_no h1 hb)
 have H:=zH h;have hpbl:=h.size;generalize hG:names (rest P p)=G;have HG:=zH hG;clear hG;cases hbar:mk cBar (rest P p) with
 | false=>
  have K:=zH (skip_no h hbar);have HG2:Hid (G=some ([],rest P p)):=zH (by rw[<-HG.out];unfold names;rw[hbar];rfl);clear h hbar;generalize hpb:P.pb=pb at *;clear hpb;go_enter Tryz.func175,Tryz.ntmps175;go_wp2_with fail
  refine K.out.mono ?_;rintro e w2 ⟨rfl,hb2⟩;have HPS2:=zH (H.out.below hb2);have HT2:=zH ((Turn.refl P w).below hb2);clear hb2;go_wp2_with fail
  go_ret;exact .inl ⟨_,[],p,rfl,World.ownsRow_nil _ _ _ _,Nat.zero_le _,(fun _ h=>nomatch h),HPS2.out,HT2.out,HG2.out⟩
 | true=>
  have K:=zH (skip_yes h hbar);have HBAR:=zH hbar;have KV:=fun (w1:World) (h1:IS P (p+1) w1)=>zH (names_any h1)
  clear h hbar;generalize hpb:P.pb=pb at *;have HPB:=zH hpb;clear hpb;go_enter Tryz.func175,Tryz.ntmps175;go_wp2_with fail
  refine K.out.mono ?_;rintro e w1 ⟨rfl,h1,ht1⟩;have KV1:=KV w1 h1;have HT1:=zH ht1;clear h1 ht1 K;go_wp2_with fail
  refine KV1.out.mono ?_;rintro e w2 ⟨v,ts,q,rfl,hown,hlen,hsz,h2,ht2,hgo⟩;have HSZ:=zH hsz;have HL:=zH hgo;have HPS2:=zH h2;have HT2:=zH (HT1.out.trans ht2);obtain ⟨ra,rc,rfl⟩:=Kit.zax hown;have HO2:=zH (own_mono hown HT1.out.size);clear hown hsz hgo h2 ht2 KV1;cases hb2:mk cBar (rest P q) with
  | false=>
   have KN:=KN0 w2 q HPS2.out _ hb2;have HG2:Hid (G=none):=zH (by rw[<-HG.out];unfold names;rw[HBAR.out,if_pos rfl,zak,HL.out];simp only;rw[hb2];rfl);clear hb2;go_wp2_with fail
   refine KN.out.mono ?_;rintro e w3 ⟨⟨v,rfl⟩,hb3⟩;have HT3:=zH (HT2.out.below hb3);clear hb3;go_wp2_with fail
   exact ⟨rfl,.inr ⟨⟨_,rfl⟩,HT3.out,HG2.out⟩⟩
  | true=>
   have KN:=KN1 w2 q HPS2.out _ hb2;have HG2:Hid (G=some (ts,rest P (q+1))):=zH (by rw[<-HG.out];unfold names;rw[HBAR.out,if_pos rfl,zak,HL.out];simp only;rw[hb2,zak];rfl);clear hb2;go_wp2_with fail
   refine KN.out.mono ?_;rintro e w3 ⟨rfl,h3,ht3⟩;have H3:=zH h3;have HT3:=zH (HT2.out.trans ht3);have HO3:=zH (own_turn HO2.out ht3 (by rw[HPB.out];exact hpbl));clear h3 ht3;go_wp2_with fail
   go_ret;exact .inl ⟨_,ts,q+1,rfl,HO3.out,hlen,HSZ.out,H3.out,HT3.out,HG2.out⟩
theorem startsExpr_any {P:Cst} {p:Nat} {w:World} (h:IS P p w):
  Calls Tryz.prog 215 #[.pointer (some ⟨P.pb,0,none⟩)] w fun e w'=>e=.returned (.bool (sx (rest P p)))/\Below w.heap.size w w':=by
 have K:=zH (next_any h);have hpb:=h.size;generalize hD:sx (rest P p)=D
 have HD:Hid (((nxt (rest P p)).kind=1\/(nxt (rest P p)).kind=3\/(nxt (rest P p)).kind=4\/(nxt (rest P p)).kind=5)/\D=true\/((nxt (rest P p)).kind=7/\D=(decide ((nxt (rest P p)).text=cOpen)||decide ((nxt (rest P p)).text=cLeft)))\/(¬(nxt (rest P p)).kind=1/\¬(nxt (rest P p)).kind=3/\¬(nxt (rest P p)).kind=4/\¬(nxt (rest P p)).kind=5/\¬(nxt (rest P p)).kind=7)/\D=false):=by
  subst hD;cases rest P p with
  | nil=>exact zH (.inr (.inr ⟨⟨by decide,by decide,by decide,by decide,by decide⟩,rfl⟩))
  | cons t r=>
   refine zH ?_;simp only[nxt,sx];by_cases h1:t.kind=1
   ·exact .inl ⟨.inl h1,by simp[h1]⟩
   by_cases h3:t.kind=3
   ·exact .inl ⟨.inr (.inl h3),by simp[h3]⟩
   by_cases h4:t.kind=4
   ·exact .inl ⟨.inr (.inr (.inl h4)),by simp[h4]⟩
   by_cases h5:t.kind=5
   ·exact .inl ⟨.inr (.inr (.inr h5)),by simp[h5]⟩
   by_cases h7:t.kind=7
   ·exact .inr (.inl ⟨h7,by rw[decide_eq_false h1,decide_eq_false h3,decide_eq_false h4,decide_eq_false h5,decide_eq_true h7];rfl⟩)
   ·exact .inr (.inr ⟨⟨h1,h3,h4,h5,h7⟩,by simp[h1,h3,h4,h5,h7]⟩)
 clear h hD;generalize nxt (rest P p)=t at *;obtain ⟨tk,tt,tn⟩:=t;generalize P.pb=pb at *;have HB:Hid (∀ w1,Below w.heap.size w w1->Below w.heap.size w (w1.alloc (.cells #[.int .i64 tk,.string tt,.int .i64 tn] 82))):=zH fun w1 hb=>hb.alloc hb.size _
 rcases HD.out with ⟨h1,hD⟩|⟨h7,hD⟩|⟨⟨h1,h3,h4,h5,h7⟩,hD⟩
 ·simp only at h1
  subst hD;clear HD;rcases h1 with rfl|rfl|rfl|rfl
  all_goals
   go_enter Tryz.func215,Tryz.ntmps215;go_wp2_with fail
   refine K.out.mono ?_;rintro e w1 ⟨rfl,hb⟩;have HB1:=zH (HB.out _ hb);clear hb HB;go_wp2_with fail
   go_ret;exact ⟨rfl,HB1.out⟩
 ·simp only at h7 hD
  subst h7;clear HD;by_cases ho:tt=cOpen
  ·have hD2:D=true:=by rw[hD,decide_eq_true ho];rfl
   clear hD;subst hD2;subst ho;have e1:(cOpen.toList==[40])=true:=by rw[ByteArray.toList_eq];rfl
   go_enter Tryz.func215,Tryz.ntmps215;go_wp2_with fail
   refine K.out.mono ?_;rintro e w1 ⟨rfl,hb⟩;have HB1:=zH (HB.out _ hb);clear hb HB;go_wp2_with fail
   go_ret;exact ⟨rfl,HB1.out⟩
  ·have e1:(tt.toList==[40])=false:=by
    have:=text_ne ho;rw[ByteArray.toList_eq cOpen] at this;exact this
   by_cases hl:tt=cLeft
   ·have hD2:D=true:=by rw[hD,decide_eq_true hl];simp
    clear hD;subst hD2;subst hl;have e2:(cLeft.toList==[91])=true:=by rw[ByteArray.toList_eq];rfl
    clear ho;go_enter Tryz.func215,Tryz.ntmps215;go_wp2_with fail
    refine K.out.mono ?_;rintro e w1 ⟨rfl,hb⟩;have HB1:=zH (HB.out _ hb);clear hb HB;go_wp2_with fail
    go_ret;exact ⟨rfl,HB1.out⟩
   ·have hD2:D=false:=by rw[hD,decide_eq_false ho,decide_eq_false hl];rfl
    clear hD;subst hD2
    have e2:(tt.toList==[91])=false:=by have:=text_ne hl;rw[ByteArray.toList_eq cLeft] at this;exact this
    clear ho hl;go_enter Tryz.func215,Tryz.ntmps215;go_wp2_with fail
    refine K.out.mono ?_;rintro e w1 ⟨rfl,hb⟩;have HB1:=zH (HB.out _ hb);clear hb HB;go_wp2_with fail
    go_ret;exact ⟨rfl,HB1.out⟩
 ·subst hD
  simp only at h1 h3 h4 h5 h7;clear HD;have e1:(tk==1)=false:=by rw[kind_eq,decide_eq_false h1]
  have e3:(tk==3)=false:=by rw[kind_eq,decide_eq_false h3]
  have e4:(tk==4)=false:=by rw[kind_eq,decide_eq_false h4]
  have e5:(tk==5)=false:=by rw[kind_eq,decide_eq_false h5]
  have e7:(tk==7)=false:=by rw[kind_eq,decide_eq_false h7]
  clear h1 h3 h4 h5 h7;go_enter Tryz.func215,Tryz.ntmps215;go_wp2_with fail
  refine K.out.mono ?_;rintro e w1 ⟨rfl,hb⟩;have HB1:=zH (HB.out _ hb);clear hb HB;go_wp2_with fail
  go_ret;exact ⟨rfl,HB1.out⟩
end ParI
end Go.Proofs.YtbigfeblomfflaaGreatDoor
