/-
  ParSends ParMsg
-/
import Derived.Test.YtbigfeblomfflaaGreatDoorB38
import Derived.Test.YtbigfeblomfflaaGreatDoorB44
set_option maxHeartbeats 8000000
set_option maxRecDepth 10000
namespace Go.Proofs.YtbigfeblomfflaaGreatDoor
namespace ParI
open Go.RowKit
open Strs Tree Gram Placed
open Go.Proofs.YtbigfeblomfflaaGreatDoor.Parser
def sLoop (ex:X) (k:Int) (e:E) (r:R):Option (E×R):=
 if hd k r then
  match message ex r with
  | none=>none
  | some (m,r1)=>if _h:r1.length<r.length then sLoop ex k (eSend e m.text m.kids) r1 else none
 else some (e,r)
 termination_by r.length
 decreasing_by first|assumption|simpa using _h
theorem s_stop {ex:X} {k:Int} {e:E} {r:R} (h:hd k r=false):sLoop ex k e r=some (e,r):=by rw[sLoop,if_neg (by rw[h];simp)]
theorem s_none {ex:X} {k:Int} {e:E} {r:R} (h:hd k r=true) (h2:message ex r=none):sLoop ex k e r=none:=by rw[sLoop,if_pos h,h2]
theorem s_go {ex:X} (hx:Short ex) {k:Int} {e m:E} {r r1:R} (h:hd k r=true) (h2:message ex r=some (m,r1)):sLoop ex k e r=sLoop ex k (eSend e m.text m.kids) r1:=by have hlt:r1.length<r.length:=message_lt hx h2;rw[sLoop,if_pos h,h2];simp only;rw[dif_pos hlt]
theorem message_form {ex:X} {r r1:R} {m:E} (h:message ex r=some (m,r1)):∃ s args,m=eMsg s args:=by
 unfold message at h
 split at h
 ·cases h;exact ⟨_,_,rfl⟩
 ·split at h
  ·split at h
   ·cases h
   ·cases h;exact ⟨_,_,rfl⟩
  ·split at h
   ·cases h
   ·split at h
    ·cases h
    ·cases h;exact ⟨_,_,rfl⟩
theorem toE_msg {m:T} {s:ByteArray} {args:List E} (h:toE m=eMsg s args):m.kind=6/\m.num=0/\m.names=[]/\m.text=s/\toEs m.kids=args:=by
 cases m with
 | mk k t n ns vn vk ks=>
  rw[toE] at h;unfold eMsg at h
  injection h with h1 h2 h3 h4 h5
  exact ⟨h1,h3,h4,h2,h5⟩
theorem toE_send {k n:Int} {s:ByteArray} {ns:List ByteArray} {vn v:Value} {t:T} {ks:List T}:toE (.mk k s n ns vn v (t::ks))=.mk k s n ns (toE t::toEs ks):=by rw[toE,toEs]
def SBack (P:Cst) (b0:Nat) (w:World) (g:Option (E×R)) (e:Ending) (w':World):Prop:=
 (∃ t q,e=.returned (agg t)/\Own b0 w' t/\IS P q w'/\Turn P w w'/\g=some (toE t,rest P q))\/(Dead e/\Turn P w w'/\g=none)
def SBackX (P:Cst) (b0 X:Nat) (w:World) (g:Option (E×R)) (e:Ending) (w':World):Prop:=
 (∃ t q,e=.returned (agg t)/\Own b0 w' t/\IS P q w'/\Turn P w w'/\g=some (toE t,rest P q)/\(∀ b,b∈foot t->b≠X))\/(Dead e/\Turn P w w'/\g=none)
def MC (n:Nat) (k:Int):Prop:=∀ (P:Cst) (p:Nat) (w:World),IS P p w->(rest P p).length<=n->hd k (rest P p)=true->Calls Tryz.prog 166 #[.pointer (some ⟨P.pb,0,none⟩)] w (IBack P w (message (expr n) (rest P p)))
theorem send_node {base l1:Nat} {w:World} {t m:T} {v:Value} (ht:Own base w t) (hm:Own l1 w m) (hb:base<=l1) (htl:∀ b,b∈foot t->b<l1) (hown:w.ownsRow base 27 5 v (m.kids.length+1) (row (t::m.kids))) (hv:∀ b,b∈blk v->b∉foot t/\b∉foot m):
  Own base w (.mk m.kind m.text m.num m.names m.vn v (t::m.kids)):=by
 have hp:=good_iff.1 hm.good;have hnd:=hm.nd;have hlo:=hm.lo;rw[foot_eq] at hnd hlo;rw[List.nodup_append,List.nodup_append] at hnd;obtain ⟨hk1,hk2,hk3⟩:=hm.kids;have hfm:∀ b,b∈foots m.kids->b∈foot m:=fun b hb=>by rw[foot_eq];simp[hb]
 have hfn:∀ b,b∈blk m.vn->b∈foot m:=fun b hb=>by rw[foot_eq];simp[hb]
 have hfo:∀ b,b∈foots (t::m.kids)->b∈foot t\/b∈foots m.kids:=fun b hb=>by rw[foots] at hb;exact List.mem_append.1 hb
 refine own_node hp.kind hp.num hp.text hp.texts (own_base hp.names fun b hb2=>?_) hown ?_ (fun b hb2=>⟨fun h=>(hv b h).2 (hfn b hb2),fun h=>?_⟩) (fun b hb2 h=>?_)
 ·have:=hlo b (by simp[hb2]);omega
 ·refine (ht.one:Owns base w [t]).append (hk2.mono hb) fun x hx hy=>?_
  rw[foots,foots,List.append_nil] at hx;have:=htl x hx;have:=hk2.lo x hy;omega
 ·rcases hfo b h with h|h
  ·have:=htl b h
   have:=hlo b (by simp[hb2]);omega
  ·exact hnd.2.2 b hb2 b (by simp[h]) rfl
 ·rcases hfo b h with h|h
  ·exact (hv b hb2).1 h
  ·exact (hv b hb2).2 (hfm b h)
theorem send_foot {t m:T} {v:Value} {k n:Int} {s:ByteArray} {ns:List ByteArray}:∀ b,b∈foot (.mk k s n ns m.vn v (t::m.kids))->b∈foot t\/b∈foot m\/b∈blk v:=by
 intro b hb;rw[foot,foots] at hb;rw[foot_eq m];simp only[List.mem_append] at hb ⊢;rcases hb with h|h|h|h
 ·exact .inr (.inl (.inl h))
 ·exact .inr (.inr h)
 ·exact .inl h
 ·exact .inr (.inl (.inr (.inr h)))
theorem cost_fit {P:Cst} (h:Fit P) (q:Nat):cost (rest P q)<=3300000:=by
 have h1:∀ l:R,(∀ t,t∈l->t.text.size<=4000)->cost l<=4001*l.length:=by
  intro l
  induction l with
  | nil=>intro _;exact zL _
  | cons t l ih=>
   intro hl;have h2:=hl t (by simp);have h3:=ih fun x hx=>hl x (by simp[hx])
   rw[cost,List.length_cons];omega
 have h2:=h1 (rest P q) fun t ht=>h.text t (List.mem_of_mem_drop ht)
 have h3:=h.len;rw[zar] at h2;omega
theorem row_cells {w:World} {base:Nat} {e:TypeId} {size:Nat} {v:Value} {n g c:Nat} {xs:List Value} (h:w.ownsRow base e size v n xs) (hv:v=.slice (some ⟨g,0,none⟩) n c):∀ (j:Nat) (u:Value),xs[j]?=some u->w.cell? ((⟨g,0,none⟩:Addr).add j)=some u:=by intro j u hj;have hl:=(List.getElem?_eq_some_iff.1 hj).1;rw[h.1] at hl;subst hv;rw[add_plain,Nat.zero_add,h.cellAt j hl];exact hj
theorem own_cases {w:World} {base:Nat} {e:TypeId} {size:Nat} {v:Value} {n:Nat} {xs:List Value} (h:w.ownsRow base e size v n xs):(v=.slice none 0 0/\n=0)\/∃ g c,v=.slice (some ⟨g,0,none⟩) n c:=by
 obtain ⟨-,⟨hv,hn⟩|⟨g,cap,cur,hv,-⟩⟩:=h
 ·exact .inl ⟨hv,hn⟩
 ·exact .inr ⟨g,cap,hv⟩
theorem five_set4 {B:Nat} {a b c d e:Value} {w:World} (h:Five B a b c d e w) (v:Value):Five B a b c d v (w.setCell ⟨B,4,none⟩ v):=by
 obtain ⟨hs,z0,z1,z2,z3,z4,fz⟩:=h;refine ⟨by simpa using hs,?_,?_,?_,?_,?_,fun o=>?_⟩
 all_goals go_simp
theorem sends_x {n:Nat} {k:Int} (hk0:k≠0) (hm:MC n k) {P:Cst} {p b0 X:Nat} {w:World} {t0:T} (h:IS P p w) (hn:(rest P p).length<=n) (ho:Own b0 w t0) (hb:P.pb<b0) (hbw:b0<=w.heap.size) (hX:X<w.heap.size) (hfx:∀ b,b∈foot t0->b≠X):
  Calls Tryz.prog 111 #[.pointer (some ⟨P.pb,0,none⟩),agg t0,.int .i64 k] w (SBackX P b0 X w (sLoop (expr n) k (toE t0) (rest P p))):=by
 obtain ⟨i0,hi,hz0,hz1,hz2⟩:=info_parts infoE;have hfd:=field0;have KN:=fun (w1:World) (q:Nat) (h1:IS P q w1)=>zH (next_any h1)
 have KM:=fun (w1:World) (q:Nat) (h1:IS P q w1) (hl:(rest P q).length<=n) (hh:hd k (rest P q)=true)=>zH (hm P q w1 h1 hl hh)
 obtain ⟨fa,fc,fa',fc',hf1,hf2⟩:=good_forms ho.good;obtain ⟨uk,ut,un,uns,uvn,uvk,uks⟩:=t0;simp only[T.vn,T.vk,T.names,T.kids] at hf1 hf2;subst hf1 hf2;unfold agg;simp only[T.kind,T.text,T.num,T.vn,T.vk];have hba:Below w.heap.size w (w.alloc (.cells #[.int .i64 uk,.string ut,.int .i64 un,.slice fa uns.length fc,.slice fa' uks.length fc'] 27)):=(zB _ _).alloc (zL _) _;have hw1:(w.alloc (.cells #[.int .i64 uk,.string ut,.int .i64 un,.slice fa uns.length fc,.slice fa' uks.length fc'] 27)).heap.size=w.heap.size+1:=by simp
 have hbz:Below w.heap.size w ((w.alloc (.cells #[.int .i64 uk,.string ut,.int .i64 un,.slice fa uns.length fc,.slice fa' uks.length fc'] 27)).alloc (.cells #[.int .i64 0,.string ⟨#[]⟩,.int .i64 0,.slice none 0 0,.slice none 0 0] 27)):=hba.alloc hba.size _;have HPS0:=zH (h.below hbz);have HT0:=zH ((Turn.refl P w).low hbz);have hz1':=zero_new (w.alloc (.cells #[.int .i64 uk,.string ut,.int .i64 un,.slice fa uns.length fc,.slice fa' uks.length fc'] 27)) 27
 rw[hw1] at hz1';have HZ0:=zH hz1';have HF0:=zH ((five_new w (.int .i64 uk) (.string ut) (.int .i64 un) (.slice fa uns.length fc) (.slice fa' uks.length fc') 27).step ((zB _ _).alloc (zL _) (.cells #[.int .i64 0,.string ⟨#[]⟩,.int .i64 0,.slice none 0 0,.slice none 0 0] 27)));have HO0:=zH (ho.below hbz);have HFO0:=zH (fun b hb=>(⟨Or.inl (ho.lt b hb),hfx b hb⟩:(b<w.heap.size\/w.heap.size+2<=b)/\b≠X))
 have HLO:=zH h.lo;have hpbl:=h.size;have hpl:=h.le;have h8:=h.fit.fit.len;have HLEN:=zH hn;have HFT0:=zH h.fit.fit;clear h hn ho hm hba hw1 hbz hz1';generalize hG:sLoop (expr n) k (toE (T.mk uk ut un uns (.slice fa uns.length fc) (.slice fa' uks.length fc') uks)) (rest P p)=G;have HG:=zH hG;clear hG;generalize hpb:P.pb=pb at *;generalize hN:P.toks.length=N at *;have HPB:=zH hpb;clear hpb
 have HN:=zH hN;clear hN;go_enter Tryz.func111,Tryz.ntmps111;go_wp2_with fail
 go_loopw [7] (fun _ wr=>∃ (t:T) (q:Nat) (fa:Option Addr) (fc:Nat) (fa':Option Addr) (fc':Nat),t.vn=.slice fa t.names.length fc/\t.vk=.slice fa' t.kids.length fc'/\p<=q/\IS P q wr/\Turn P w wr/\Five w.heap.size (.int .i64 t.kind) (.string t.text) (.int .i64 t.num) (.slice fa t.names.length fc) (.slice fa' t.kids.length fc') wr/\Zero (w.heap.size+1) wr/\Own b0 wr t/\(∀ b,b∈foot t->(b<w.heap.size\/w.heap.size+2<=b)/\b≠X)/\G=sLoop (expr n) k (toE t) (rest P q)) (fun _ wr=>lft pb wr)
 case atStart=>exact ⟨T.mk uk ut un uns (.slice fa uns.length fc) (.slice fa' uks.length fc') uks,p,fa,fc,fa',fc',rfl,rfl,zL _,HPS0.out,HT0.out,HF0.out,HZ0.out,HO0.out,HFO0.out,HG.out.symm⟩
 case round=>
  clear HPS0 HT0 HF0 HZ0 HO0 HFO0 HG;obtain ⟨t,q,fa,fc,fa',fc',hf1,hf2,hpq,hps,htr,hf,hz,ho,hfo,hgo⟩:=hrel;obtain ⟨uk,ut,un,uns,uvn,uvk,uks⟩:=t;simp only[T.vn,T.vk,T.names,T.kids] at hf1 hf2;subst hf1 hf2;simp only[T.kind,T.text,T.num,T.names,T.kids] at hf;have HPS:=zH hps;have HTR:=zH htr;have HFV:=zH hf;have HZ:=zH hz;have HO:=zH ho;have HFO:=zH hfo;have HGO:=zH hgo
  have hqN:=hps.le;rw[HN.out] at hqN;have hpl2:=hps.lft;rw[HPB.out,HN.out] at hpl2;have hpl3:=zH hpl2;have hgw:=hz.size;have KN1:=KN wr q hps
  have HLQ:Hid ((rest P q).length<=n):=zH (by have h1:=HLEN.out;rw[zar,HN.out] at h1 ⊢;omega)
  clear hps htr hf hz ho hfo hgo hpl2;cases hb1:hd k (rest P q) with
  | false=>
   have e1:=nxt_no hk0 hb1;have HG2:Hid (G=some (toE (T.mk uk ut un uns (.slice fa uns.length fc) (.slice fa' uks.length fc') uks),rest P q)):=zH (by rw[HGO.out,s_stop hb1]);clear hb1;generalize nxt (rest P q)=t at *;go_wp2_with fail
   refine KN1.out.mono ?_;rintro e w2 ⟨rfl,hb2⟩;have HPS2:=zH (HPS.out.below hb2);have HT2:=zH (HTR.out.below hb2);have HO2:=zH (HO.out.below hb2);obtain ⟨hszz,y0,y1,y2,y3,y4,yfz⟩:=HZ.out.step hb2;obtain ⟨hs5,f0,f1,f2,f3,f4,ffz⟩:=HFV.out.step hb2;clear hb2 KN1;go_wp2_with fail
   have hb9:=zah (zB w.heap.size w2) (B:=w.heap.size+1) (Nat.le_succ _) (.int .i64 uk) (.string ut) (.int .i64 un) (.slice fa uns.length fc) (.slice fa' uks.length fc');refine bodyPost_ret (v:=.agg #[.int .i64 uk,.string ut,.int .i64 un,.slice fa uns.length fc,.slice fa' uks.length fc']) (by simp[results,Tryz.results111,go_sem, *]) rfl ?_
   exact .inl ⟨.mk uk ut un uns (.slice fa uns.length fc) (.slice fa' uks.length fc') uks,q,rfl,Own.put5 HO2.out (fun hm=>by have:=HFO.out _ hm;omega) _ _ _ _ _,HPS2.out.low hb9 HLO.out,HT2.out.low hb9,HG2.out,fun b hb=>(HFO.out b hb).2⟩
  | true=>
   have HB1:=zH hb1;have e1:((nxt (rest P q)).kind==k)=true:=by rw[nxt_eq hb1,kind_eq,decide_eq_true rfl]
   clear hb1;generalize nxt (rest P q)=t at *;go_wp2_with fail
   refine KN1.out.mono ?_;rintro e w2 ⟨rfl,hb2⟩;have HT2:=zH (HTR.out.below hb2);have HO2:=zH (HO.out.below hb2);have HZ2:=zH (HZ.out.step hb2);have HF2:=zH (HFV.out.step hb2);have hg2:=HZ2.out.size;have HFT:=zH (fun b hb=>HO2.out.lt b hb)
   have KM1:=KM w2 q (HPS.out.below hb2) HLQ.out HB1.out;clear hb2 KN1 HTR HO HZ HFV HPS;go_wp2_with fail
   refine KM1.out.mono ?_;rintro e w4 (⟨m,q4,rfl,hm4,h4,ht4,hg4⟩|⟨⟨v,rfl⟩,ht4,hg4⟩)
   case inr=>
    have HG2:Hid (G=none):=zH (by rw[HGO.out,s_none HB1.out hg4]);have HT4:=zH (HT2.out.trans ht4);clear ht4 hg4 KM1;go_wp2_with fail
    exact ⟨rfl,.inr ⟨⟨_,rfl⟩,HT4.out,HG2.out⟩⟩
   have hs4:=ht4.size;obtain ⟨va,vc,va',vc',hv1,hv2⟩:=good_forms hm4.good;obtain ⟨ms,margs,hmf⟩:=message_form hg4;obtain ⟨hm1,hm2,hm3,hm5,hm6⟩:=toE_msg hmf
   have HG4:Hid (G=sLoop (expr n) k (toE (T.mk m.kind m.text m.num m.names m.vn (.slice none 0 0) (T.mk uk ut un uns (.slice fa uns.length fc) (.slice fa' uks.length fc') uks::m.kids))) (rest P q4)):=zH (by rw[HGO.out,s_go (zat n) HB1.out hg4,toE_send,hm1,hm2,hm3,hmf,hm5,hm6];rfl)
   have HQ4:Hid (q<q4/\q4<=N):=zH (by have h1:=message_lt (zat n) hg4;have h2:=h4.le;rw[zar,zar,HN.out] at h1;rw[HN.out] at h2;omega)
   have hkl:m.kids.length<=3300000:=by have h1:=message_light (expr_light n) (zat n) hg4;have h2:=cost_fit HFT0.out q;rw[hmf,weight_msg,<-hm6,toEs_len] at h1;omega
   clear hmf hm1 hm2 hm3 hm5 hm6;obtain ⟨vk,vt,vn,vns,vvn,vvk,vks⟩:=m;simp only[T.vn,T.vk,T.names,T.kids,T.kind,T.text,T.num] at hv1 hv2 HG4 hkl;subst hv1 hv2;obtain ⟨hq4,hq5⟩:=HQ4.out;have hbm:Below w4.heap.size w4 (w4.alloc (.cells #[.int .i64 vk,.string vt,.int .i64 vn,.slice va vns.length vc,.slice va' vks.length vc'] 27)):=(zB _ _).alloc (zL _) _;have hw4:(w4.alloc (.cells #[.int .i64 vk,.string vt,.int .i64 vn,.slice va vns.length vc,.slice va' vks.length vc'] 27)).heap.size=w4.heap.size+1:=by simp
   have HW4:=zH hw4;have HPS4:=zH (h4.below hbm);have HT4:=zH ((HT2.out.trans ht4).below hbm);have HO4:=zH ((own_turnT HO2.out ht4 (by rw[HPB.out];exact hb)).below hbm);have HM4:=zH (hm4.below hbm);have HFM:=zH (fun b hb=>hm4.lt b hb)
   have HZ4:=zH ((HZ2.out.turn ht4 (by rw[HPB.out];omega)).step hbm);have HF4:=zH ((HF2.out.turn ht4 (by rw[HPB.out];omega)).step hbm);have HFM4:=zH (five_new w4 (.int .i64 vk) (.string vt) (.int .i64 vn) (.slice va vns.length vc) (.slice va' vks.length vc') 27);have hlit:=lit_row HO4.out (by rw[hw4];omega);rw[hw4] at hlit;have HLIT:=zH hlit;have hblit:Below (w4.alloc (.cells #[.int .i64 vk,.string vt,.int .i64 vn,.slice va vns.length vc,.slice va' vks.length vc'] 27)).heap.size (w4.alloc (.cells #[.int .i64 vk,.string vt,.int .i64 vn,.slice va vns.length vc,.slice va' vks.length vc'] 27)) ((w4.alloc (.cells #[.int .i64 vk,.string vt,.int .i64 vn,.slice va vns.length vc,.slice va' vks.length vc'] 27)).alloc (.cells #[.int .i64 uk,.string ut,.int .i64 un,.slice fa uns.length fc,.slice fa' uks.length fc'] 27)):=(zB _ _).alloc (zL _) _
   have HPS5:=zH (HPS4.out.below hblit);have HT5':=zH (HT4.out.below hblit);have HZ5:=zH (HZ4.out.step hblit);have HF5:=zH (HF4.out.step hblit);have HFM5:=zH (HFM4.out.step hblit);have HO5:=zH (HO4.out.below hblit);have HM5':=zH (HM4.out.below hblit);have HKR:=zH HM5'.out.kids;obtain ⟨hsa,a0,a1,a2,a3,a4,afz⟩:=HF4.out;obtain ⟨hsb,c0,c1,c2,c3,c4,cfz⟩:=HFM5.out
   unfold agg;simp only[T.kind,T.text,T.num,T.vn,T.vk];clear h4 ht4 hm4 hg4 hbm hw4 hlit hblit KM1 HT2 HO2 HZ2 HF2;have hsz5:(((w4.alloc (.cells #[.int .i64 vk,.string vt,.int .i64 vn,.slice va vns.length vc,.slice va' vks.length vc'] 27)).alloc (.cells #[.int .i64 uk,.string ut,.int .i64 un,.slice fa uns.length fc,.slice fa' uks.length fc'] 27))).heap.size=w4.heap.size+2:=by simp
   have HSZ5:=zH hsz5
   have HHP5:Hid (∀ b,b<w4.heap.size->(((w4.alloc (.cells #[.int .i64 vk,.string vt,.int .i64 vn,.slice va vns.length vc,.slice va' vks.length vc'] 27)).alloc (.cells #[.int .i64 uk,.string ut,.int .i64 un,.slice fa uns.length fc,.slice fa' uks.length fc'] 27))).heap[b]?=(w4.alloc (.cells #[.int .i64 vk,.string vt,.int .i64 vn,.slice va vns.length vc,.slice va' vks.length vc'] 27)).heap[b]?):=zH fun b hb=>by
    have hbl:Below (w4.alloc (.cells #[.int .i64 vk,.string vt,.int .i64 vn,.slice va vns.length vc,.slice va' vks.length vc'] 27)).heap.size (w4.alloc (.cells #[.int .i64 vk,.string vt,.int .i64 vn,.slice va vns.length vc,.slice va' vks.length vc'] 27)) (((w4.alloc (.cells #[.int .i64 vk,.string vt,.int .i64 vn,.slice va vns.length vc,.slice va' vks.length vc'] 27)).alloc (.cells #[.int .i64 uk,.string ut,.int .i64 un,.slice fa uns.length fc,.slice fa' uks.length fc'] 27))):=(zB _ _).alloc (zL _) _
    exact hbl.block b (by rw[HW4.out];omega)
   clear hsz5;rcases own_cases HKR.out.1 with ⟨hv,hn0⟩|⟨g4,c4',hv⟩
   ·have HV:=zH hv
    replace hn0:vks.length=0:=hn0;have hvks:vks=[]:=List.eq_nil_of_length_eq_zero hn0
    have HROW0:Hid ((((w4.alloc (.cells #[.int .i64 vk,.string vt,.int .i64 vn,.slice va vns.length vc,.slice va' vks.length vc'] 27)).alloc (.cells #[.int .i64 uk,.string ut,.int .i64 un,.slice fa uns.length fc,.slice fa' uks.length fc'] 27))).ownsRow b0 27 5 (.slice (some ⟨w4.heap.size+1,0,none⟩) 1 1) (vks.length+1) (row (T.mk uk ut un uns (.slice fa uns.length fc) (.slice fa' uks.length fc') uks::vks))):=zH (by
     have e1:vks.length+1=1:=by omega
     have e2:row (T.mk uk ut un uns (.slice fa uns.length fc) (.slice fa' uks.length fc') uks::vks)=row [T.mk uk ut un uns (.slice fa uns.length fc) (.slice fa' uks.length fc') uks]:=by rw[hvks]
     rw[e1,e2];exact HLIT.out.own)
    have HSZ6:Hid (w4.heap.size+2<=(((w4.alloc (.cells #[.int .i64 vk,.string vt,.int .i64 vn,.slice va vns.length vc,.slice va' vks.length vc'] 27)).alloc (.cells #[.int .i64 uk,.string ut,.int .i64 un,.slice fa uns.length fc,.slice fa' uks.length fc'] 27))).heap.size):=zH (by rw[HSZ5.out];exact zL _);have HHP:=zH HHP5.out;have HBV:Hid (∀ b,b∈blk (.slice (some ⟨w4.heap.size+1,0,none⟩) 1 1)->w4.heap.size<b):=zH (fun b hb=>by simp[blk,Value.ownBlock] at hb;omega)
    have HFM6:=zH HFM5.out;have HFR6:=zH HF5.out;have HZ6:=zH HZ5.out;have HPS6:=zH HPS5.out;have HT6:=zH HT5'.out;have HVN:=zH hn0;clear hv hn0 hvks;have HROW:Hid (((w4.alloc (.cells #[.int .i64 vk,.string vt,.int .i64 vn,.slice va vns.length vc,.slice va' vks.length vc'] 27)).alloc (.cells #[.int .i64 uk,.string ut,.int .i64 un,.slice fa uns.length fc,.slice fa' uks.length fc'] 27)).ownsRow b0 27 5 (.slice (some ⟨w4.heap.size+1,0,none⟩) 1 1) (vks.length+1) (row (T.mk uk ut un uns (.slice fa uns.length fc) (.slice fa' uks.length fc') uks::vks))):=HROW0
    have hs6:w4.heap.size+2<=((w4.alloc (.cells #[.int .i64 vk,.string vt,.int .i64 vn,.slice va vns.length vc,.slice va' vks.length vc'] 27)).alloc (.cells #[.int .i64 uk,.string ut,.int .i64 un,.slice fa uns.length fc,.slice fa' uks.length fc'] 27)).heap.size:=HSZ6.out;have HT5:Hid (Own b0 ((w4.alloc (.cells #[.int .i64 vk,.string vt,.int .i64 vn,.slice va vns.length vc,.slice va' vks.length vc'] 27)).alloc (.cells #[.int .i64 uk,.string ut,.int .i64 un,.slice fa uns.length fc,.slice fa' uks.length fc'] 27)) (T.mk uk ut un uns (.slice fa uns.length fc) (.slice fa' uks.length fc') uks)):=zH (HO4.out.frame fun b hb=>HHP.out b (by have:=HO4.out.lt b hb;simp at this;have:=HFT.out b hb;omega))
    have HM5:Hid (Own w2.heap.size ((w4.alloc (.cells #[.int .i64 vk,.string vt,.int .i64 vn,.slice va vns.length vc,.slice va' vks.length vc'] 27)).alloc (.cells #[.int .i64 uk,.string ut,.int .i64 un,.slice fa uns.length fc,.slice fa' uks.length fc'] 27)) (T.mk vk vt vn vns (.slice va vns.length vc) (.slice va' vks.length vc') vks)):=zH (HM4.out.frame fun b hb=>HHP.out b (HFM.out b hb))
    have HNODE:Hid (Own b0 ((w4.alloc (.cells #[.int .i64 vk,.string vt,.int .i64 vn,.slice va vns.length vc,.slice va' vks.length vc'] 27)).alloc (.cells #[.int .i64 uk,.string ut,.int .i64 un,.slice fa uns.length fc,.slice fa' uks.length fc'] 27)) (T.mk vk vt vn vns (.slice va vns.length vc) (.slice (some ⟨w4.heap.size+1,0,none⟩) 1 1) (T.mk uk ut un uns (.slice fa uns.length fc) (.slice fa' uks.length fc') uks::vks))):=zH (send_node (m:=T.mk vk vt vn vns (.slice va vns.length vc) (.slice va' vks.length vc') vks) HT5.out HM5.out (by omega) (fun b hb=>by have:=HFT.out b hb;omega) HROW.out (fun b hb=>by
     have h1:=HBV.out b hb;refine ⟨fun h2=>?_,fun h2=>?_⟩
     ·have:=HFT.out b h2;omega
     ·have:=HFM.out b h2;omega))
    have HFO6:Hid (∀ b,b∈foot (T.mk vk vt vn vns (.slice va vns.length vc) (.slice (some ⟨w4.heap.size+1,0,none⟩) 1 1) (T.mk uk ut un uns (.slice fa uns.length fc) (.slice fa' uks.length fc') uks::vks))->b≠w4.heap.size/\((b<w.heap.size\/w.heap.size+2<=b)/\b≠X)):=zH (fun b hb=>by
     rcases send_foot (m:=T.mk vk vt vn vns (.slice va vns.length vc) (.slice va' vks.length vc') vks) b hb with h|h|h
     ·have:=HFT.out b h;have:=HFO.out b h;exact ⟨by omega,this⟩
     ·have:=HFM.out b h;have:=HM5.out.lo b h;exact ⟨by omega,.inr (by omega),by omega⟩
     ·have:=HBV.out b h;exact ⟨by omega,.inr (by omega),by omega⟩)
    obtain ⟨hs7,f0,f1,f2,f3,f4,ffz⟩:=HFM6.out;obtain ⟨hs8,g0,g1,g2,g3,g4,gfz⟩:=HFR6.out;go_wp2_with (at_builtin;go_must (refine wpList_append_own_none rfl _ _ 25 rfl b0 27 i0 5 Tryz.underlying25 hi _ 1 (row [T.mk uk ut un uns (.slice fa uns.length fc) (.slice fa' uks.length fc') uks]) rfl HLIT.out.own HV.out ?_);generalize ((w4.alloc (.cells #[.int .i64 vk,.string vt,.int .i64 vn,.slice va vns.length vc,.slice va' vks.length vc'] 27)).alloc (.cells #[.int .i64 uk,.string ut,.int .i64 un,.slice fa uns.length fc,.slice fa' uks.length fc'] 27))=w6 at *)
    go_roundw
    case rel=>
     have hb7:Below w.heap.size w6 (w6.setCell ⟨w4.heap.size,4,none⟩ (.slice (some ⟨w4.heap.size+1,0,none⟩) 1 1)):=(zB _ _).setCell (by show w.heap.size<=w4.heap.size;omega) _;have hb8:=zah (B:=w.heap.size) hb7 (zL _) (.int .i64 vk) (.string vt) (.int .i64 vn) (.slice va vns.length vc) (.slice (some ⟨w4.heap.size+1,0,none⟩) 1 1);have hheap:∀ b,b≠w4.heap.size->b≠w.heap.size->(put5 (w6.setCell ⟨w4.heap.size,4,none⟩ (.slice (some ⟨w4.heap.size+1,0,none⟩) 1 1)) w.heap.size (.int .i64 vk) (.string vt) (.int .i64 vn) (.slice va vns.length vc) (.slice (some ⟨w4.heap.size+1,0,none⟩) 1 1)).heap[b]?=w6.heap[b]?:=fun b h1 h2=>(put5_heap _ _ _ _ _ _ _ h2).trans (set_heap _ _ _ _ h1)
     refine ⟨T.mk vk vt vn vns (.slice va vns.length vc) (.slice (some ⟨w4.heap.size+1,0,none⟩) 1 1) (T.mk uk ut un uns (.slice fa uns.length fc) (.slice fa' uks.length fc') uks::vks),q4,va,vc,some ⟨w4.heap.size+1,0,none⟩,1,rfl,by (show Value.slice _ 1 1=Value.slice _ (vks.length+1) 1;rw[HVN.out]),by omega,HPS6.out.low hb8 HLO.out,HT6.out.low hb8,?_,?_,HNODE.out.frame fun b hb=>?_,fun b hb=>(HFO6.out b hb).2,HG4.out⟩
     ·show Five _ _ _ _ _ (.slice _ (vks.length+1) _) _
      rw[show vks.length+1=1 by rw[HVN.out]]
      exact five_put ((HFR6.out.same (by simp[World.setCell]) (set_heap w6 w4.heap.size 4 (.slice (some ⟨w4.heap.size+1,0,none⟩) 1 1) (by omega))))
     ·exact HZ6.out.same (by simp[World.setCell]) (hheap _ (by omega) (by omega))
     ·exact hheap b (HFO6.out b hb).1 (by have:=(HFO6.out b hb).2;omega)
    case measure=>
     have hb7:Below w.heap.size w6 (w6.setCell ⟨w4.heap.size,4,none⟩ (.slice (some ⟨w4.heap.size+1,0,none⟩) 1 1)):=(zB _ _).setCell (by show w.heap.size<=w4.heap.size;omega) _;have hb8:=zah (B:=w.heap.size) hb7 (zL _) (.int .i64 vk) (.string vt) (.int .i64 vn) (.slice va vns.length vc) (.slice (some ⟨w4.heap.size+1,0,none⟩) 1 1);have h1:=(HPS6.out.low hb8 HLO.out).lft;rw[HPB.out,HN.out] at h1
     show lft pb (put5 _ _ _ _ _ _ _)<_
     rw[h1,hpl3.out];omega
   ·have HV:=zH hv
    clear hv;go_wp2_with (at_builtin;go_must (refine wpList_append_own_at _ rfl _ _ 25 rfl b0 27 i0 (.agg #[.int .i64 0,.string ByteArray.empty,.int .i64 0,.slice none 0 0,.slice none 0 0]) 5 80 Tryz.underlying25 hi hz0 hz1 hz2 rfl (by decide) _ 1 (row [T.mk uk ut un uns (.slice fa uns.length fc) (.slice fa' uks.length fc') uks]) rfl HLIT.out.own ⟨g4,0,none⟩ vks.length c4' (row vks) HV.out ?c0 ?c1 ?c2 ?c3 ?c4 ?c5 ?_))
    case c0=>exact row_len vks
    case c1=>exact row_cells HKR.out.1 HV.out
    case c2=>exact goods_one HKR.out.2.1.good
    case c3=>unfold maxLen;omega
    case c4=>omega
    case c5=>rw[HSZ5.out];omega
    intro v6 w6 hown hgr _ hat;rw[Nat.add_comm 1,<-row_append] at hown;have HROW0:Hid (w6.ownsRow b0 27 5 v6 (vks.length+1) (row (T.mk uk ut un uns (.slice fa uns.length fc) (.slice fa' uks.length fc') uks::vks))):=zH hown;obtain ⟨a6,c6,hv6⟩:=Kit.zax hown;have hgs:=hgr.size;rw[HSZ5.out] at hgs;have HSZ6:Hid (w4.heap.size+2<=w6.heap.size):=zH hgs
    have hob:∀ b,b<w4.heap.size+1->some b≠(Value.slice (some ⟨w4.heap.size+1,0,none⟩) 1 1).ownBlock:=fun b hb e=>by simp[Value.ownBlock] at e;omega
    have HHP:Hid (∀ b,b<w4.heap.size->w6.heap[b]?=(w4.alloc (.cells #[.int .i64 vk,.string vt,.int .i64 vn,.slice va vns.length vc,.slice va' vks.length vc'] 27)).heap[b]?):=zH fun b hb=>(hgr.block b (by rw[HSZ5.out];omega) (hob b (by omega))).trans (HHP5.out b hb)
    have HBV:Hid (∀ b,b∈blk v6->w4.heap.size<b):=zH (fun b hb=>by
     unfold blk at hb;rcases hat with e|e
     ·rw[e] at hb
      simp[Value.ownBlock] at hb;omega
     ·rw[e] at hb
      simp at hb;omega)
    have HFM6:=zH (HFM5.out.same hgr.size (hgr.block _ (by rw[HSZ5.out];omega) (hob _ (by omega))));have HFR6:=zH (HF5.out.same hgr.size (hgr.block _ (by rw[HSZ5.out];omega) (hob _ (by omega))));have HZ6:=zH (HZ5.out.same hgr.size (hgr.block _ (by rw[HSZ5.out];omega) (hob _ (by omega))));have hb6:Below w.heap.size (((w4.alloc (.cells #[.int .i64 vk,.string vt,.int .i64 vn,.slice va vns.length vc,.slice va' vks.length vc'] 27)).alloc (.cells #[.int .i64 uk,.string ut,.int .i64 un,.slice fa uns.length fc,.slice fa' uks.length fc'] 27))) w6:=(zB _ _).grown hgr (by rw[HSZ5.out];omega) (fun k hk=>by simp[Value.ownBlock] at hk;omega)
    have HPS6:=zH (HPS5.out.low hb6 HLO.out);have HT6:=zH (HT5'.out.low hb6);subst hv6;clear hown hgr hgs hob hb6 hat;have HROW:Hid (w6.ownsRow b0 27 5 (.slice a6 (vks.length+1) c6) (vks.length+1) (row (T.mk uk ut un uns (.slice fa uns.length fc) (.slice fa' uks.length fc') uks::vks))):=HROW0;have hs6:w4.heap.size+2<=w6.heap.size:=HSZ6.out;have HT5:Hid (Own b0 w6 (T.mk uk ut un uns (.slice fa uns.length fc) (.slice fa' uks.length fc') uks)):=zH (HO4.out.frame fun b hb=>HHP.out b (by have:=HO4.out.lt b hb;simp at this;have:=HFT.out b hb;omega))
    have HM5:Hid (Own w2.heap.size w6 (T.mk vk vt vn vns (.slice va vns.length vc) (.slice va' vks.length vc') vks)):=zH (HM4.out.frame fun b hb=>HHP.out b (HFM.out b hb))
    have HNODE:Hid (Own b0 w6 (T.mk vk vt vn vns (.slice va vns.length vc) (.slice a6 (vks.length+1) c6) (T.mk uk ut un uns (.slice fa uns.length fc) (.slice fa' uks.length fc') uks::vks))):=zH (send_node (m:=T.mk vk vt vn vns (.slice va vns.length vc) (.slice va' vks.length vc') vks) HT5.out HM5.out (by omega) (fun b hb=>by have:=HFT.out b hb;omega) HROW.out (fun b hb=>by
     have h1:=HBV.out b hb;refine ⟨fun h2=>?_,fun h2=>?_⟩
     ·have:=HFT.out b h2;omega
     ·have:=HFM.out b h2;omega))
    have HFO6:Hid (∀ b,b∈foot (T.mk vk vt vn vns (.slice va vns.length vc) (.slice a6 (vks.length+1) c6) (T.mk uk ut un uns (.slice fa uns.length fc) (.slice fa' uks.length fc') uks::vks))->b≠w4.heap.size/\((b<w.heap.size\/w.heap.size+2<=b)/\b≠X)):=zH (fun b hb=>by
     rcases send_foot (m:=T.mk vk vt vn vns (.slice va vns.length vc) (.slice va' vks.length vc') vks) b hb with h|h|h
     ·have:=HFT.out b h;have:=HFO.out b h;exact ⟨by omega,this⟩
     ·have:=HFM.out b h;have:=HM5.out.lo b h;exact ⟨by omega,.inr (by omega),by omega⟩
     ·have:=HBV.out b h;exact ⟨by omega,.inr (by omega),by omega⟩)
    obtain ⟨hs7,f0,f1,f2,f3,f4,ffz⟩:=HFM6.out;obtain ⟨hs8,g0,g1,g2,g3,g4,gfz⟩:=HFR6.out;go_wp2_with fail
    go_roundw
    case rel=>
     have hb7:Below w.heap.size w6 (w6.setCell ⟨w4.heap.size,4,none⟩ (.slice a6 (vks.length+1) c6)):=(zB _ _).setCell (by show w.heap.size<=w4.heap.size;omega) _;have hb8:=zah (B:=w.heap.size) hb7 (zL _) (.int .i64 vk) (.string vt) (.int .i64 vn) (.slice va vns.length vc) (.slice a6 (vks.length+1) c6);have hheap:∀ b,b≠w4.heap.size->b≠w.heap.size->(put5 (w6.setCell ⟨w4.heap.size,4,none⟩ (.slice a6 (vks.length+1) c6)) w.heap.size (.int .i64 vk) (.string vt) (.int .i64 vn) (.slice va vns.length vc) (.slice a6 (vks.length+1) c6)).heap[b]?=w6.heap[b]?:=fun b h1 h2=>(put5_heap _ _ _ _ _ _ _ h2).trans (set_heap _ _ _ _ h1)
     refine ⟨T.mk vk vt vn vns (.slice va vns.length vc) (.slice a6 (vks.length+1) c6) (T.mk uk ut un uns (.slice fa uns.length fc) (.slice fa' uks.length fc') uks::vks),q4,va,vc,a6,c6,rfl,rfl,by omega,HPS6.out.low hb8 HLO.out,HT6.out.low hb8,?_,?_,HNODE.out.frame fun b hb=>?_,fun b hb=>(HFO6.out b hb).2,HG4.out⟩
     ·exact five_put ((HFR6.out.same (by simp[World.setCell]) (set_heap w6 w4.heap.size 4 (.slice a6 (vks.length+1) c6) (by omega))))
     ·exact HZ6.out.same (by simp[World.setCell]) (hheap _ (by omega) (by omega))
     ·exact hheap b (HFO6.out b hb).1 (by have:=(HFO6.out b hb).2;omega)
    case measure=>
     have hb7:Below w.heap.size w6 (w6.setCell ⟨w4.heap.size,4,none⟩ (.slice a6 (vks.length+1) c6)):=(zB _ _).setCell (by show w.heap.size<=w4.heap.size;omega) _;have hb8:=zah (B:=w.heap.size) hb7 (zL _) (.int .i64 vk) (.string vt) (.int .i64 vn) (.slice va vns.length vc) (.slice a6 (vks.length+1) c6);have h1:=(HPS6.out.low hb8 HLO.out).lft;rw[HPB.out,HN.out] at h1;show lft pb (put5 _ _ _ _ _ _ _)<_
     rw[h1,hpl3.out];omega
theorem sends_any {n:Nat} {k:Int} (hk0:k≠0) (hm:MC n k) {P:Cst} {p b0:Nat} {w:World} {t0:T} (h:IS P p w) (hn:(rest P p).length<=n) (ho:Own b0 w t0) (hb:P.pb<b0) (hbw:b0<=w.heap.size):
  Calls Tryz.prog 111 #[.pointer (some ⟨P.pb,0,none⟩),agg t0,.int .i64 k] w (SBack P b0 w (sLoop (expr n) k (toE t0) (rest P p))):=by
 refine (sends_x (X:=P.pb) hk0 hm h hn ho hb hbw (by omega) (fun b hb'=>by have:=ho.lo b hb';omega)).mono ?_
 rintro e w' (⟨t,q,h1,h2,h3,h4,h5,-⟩|h)
 ·exact .inl ⟨t,q,h1,h2,h3,h4,h5⟩
 ·exact .inr h
end ParI
namespace ParI
open Go.RowKit
open Strs Tree Gram Placed
open Go.Proofs.YtbigfeblomfflaaGreatDoor.Parser
theorem mess_unary {ex:X} {r:R} (h:hd 1 r=true):message ex r=some (eMsg (txt r) [],r.tail):=by rw[message,if_pos h]
theorem hd_one {k j:Int} {r:R} (h:hd k r=true) (hj:k≠j):hd j r=false:=by obtain ⟨t,r',rfl,hk⟩:=hd_some h;exact decide_eq_false (fun e=>hj (hk.symm.trans e))
def drop2 (g:Option (E×Bool×R)):Option (E×R):=g.map fun x=>(x.1,x.2.2)
theorem mess_binary {ex:X} {r:R} (h:hd 6 r=true):message ex r=match drop2 (unary ex r.tail) with|none=>none|some (a,r1)=>some (eMsg (txt r) [a],r1):=by
 rw[message,if_neg (by rw[hd_one h (by decide)];simp),if_pos h]
 cases unary ex r.tail with
 | none=>rfl
 | some y=>obtain ⟨a,s,r1⟩:=y;rfl
theorem un_sLoop {ex:X} (hx:Short ex):∀ (m:Nat) (r:R) (e:E) (s:Bool),r.length<=m->sLoop ex 1 e r=some ((unLoop e s r).1,(unLoop e s r).2.2):=by
 intro m
 induction m with
 | zero=>intro r e s hm;have:r=[]:=List.eq_nil_of_length_eq_zero (by omega);subst this;rw[s_stop rfl];rfl
 | succ m ih=>
  intro r e s hm;cases r with
  | nil=>rw[s_stop rfl];rfl
  | cons t r=>
   rw[unLoop];by_cases hk:t.kind=1
   ·have hh:hd 1 (t::r)=true:=decide_eq_true hk
    have h1:=mess_unary (ex:=ex) hh;rw[s_go hx hh h1,if_pos hk];exact ih r (eSend e t.text []) true (by simp at hm;omega)
   ·have hh:hd 1 (t::r)=false:=decide_eq_false hk
    rw[s_stop hh,if_neg hk]
theorem unary_s {ex:X} (hx:Short ex) (r:R):drop2 (unary ex r)=match primary ex r with|none=>none|some (e,r1)=>sLoop ex 1 e r1:=by
 unfold unary drop2;cases primary ex r with
 | none=>rfl
 | some y=>obtain ⟨e,r1⟩:=y;simp only[Option.map];rw[un_sLoop hx _ r1 e false (zL _)]
theorem bin_sLoop {ex:X} (hx:Short ex):∀ (m:Nat) (r:R) (e:E) (s:Bool),r.length<=m->sLoop ex 6 e r=drop2 (binLoop ex e s r):=by
 intro m
 induction m with
 | zero=>intro r e s hm;have:r=[]:=List.eq_nil_of_length_eq_zero (by omega);subst this;rw[s_stop rfl,binLoop];rfl
 | succ m ih=>
  intro r e s hm;cases h6:hd 6 r with
  | false=>rw[s_stop h6,bin_stop h6];rfl
  | true=>
   have h1:=mess_binary (ex:=ex) h6;have hl:=hd_lt h6;cases hu:unary ex r.tail with
   | none=>rw[hu] at h1;rw[s_none h6 h1,bin_none h6 hu];rfl
   | some y=>obtain ⟨a,s',r1⟩:=y;rw[hu] at h1;have hlt:=unary_lt hx hu;rw[s_go hx h6 h1,bin_go hx h6 hu];exact ih r1 _ true (by omega)
theorem binary_s {ex:X} (hx:Short ex) (r:R):drop2 (binary ex r)=match drop2 (unary ex r) with|none=>none|some (e,r1)=>sLoop ex 6 e r1:=by
 unfold binary;cases unary ex r with
 | none=>rfl
 | some y=>obtain ⟨e,s,r1⟩:=y;simp only[drop2,Option.map];rw[bin_sLoop hx _ r1 e s (zL _)];rfl
theorem drop2_short {ex:X} (hx:Short ex) {r r1:R} {e:E} (h:drop2 (unary ex r)=some (e,r1)):r1.length<r.length:=by
 unfold drop2 at h;cases hu:unary ex r with
 | none=>rw[hu] at h;cases h
 | some y=>obtain ⟨a,s,r2⟩:=y;rw[hu] at h;cases h;exact unary_lt hx hu
theorem five_set1 {B:Nat} {a b c d e:Value} {w:World} (h:Five B a b c d e w) (v:Value):Five B a v c d e (w.setCell ⟨B,1,none⟩ v):=by
 obtain ⟨hs,z0,z1,z2,z3,z4,fz⟩:=h;refine ⟨by simpa using hs,?_,?_,?_,?_,?_,fun o=>?_⟩
 all_goals go_simp
theorem alloc_heap {w w':World} (o:Obj) {b:Nat} (hs:w'.heap.size=w.heap.size) (h:b<w.heap.size->w'.heap[b]?=w.heap[b]?):(w'.alloc o).heap[b]?=(w.alloc o).heap[b]?:=by
 simp only[World.alloc,Array.getElem?_push,hs]
 split
 ·rfl
 ·by_cases hb:b<w.heap.size
  ·exact h hb
  ·rw[Array.getElem?_eq_none (by omega),Array.getElem?_eq_none (by omega)]
theorem message_1 (n:Nat):MC n 1:=by
 intro P p w h hn hh;have hfd:=field0;have hbz:Below w.heap.size w (w.alloc (.cells #[.int .i64 0,.string ⟨#[]⟩,.int .i64 0,.slice none 0 0,.slice none 0 0] 27)):=(zB _ _).alloc (zL _) _;have hw1:(w.alloc (.cells #[.int .i64 0,.string ⟨#[]⟩,.int .i64 0,.slice none 0 0,.slice none 0 0] 27)).heap.size=w.heap.size+1:=by simp
 have hbe:Below (w.alloc (.cells #[.int .i64 0,.string ⟨#[]⟩,.int .i64 0,.slice none 0 0,.slice none 0 0] 27)).heap.size (w.alloc (.cells #[.int .i64 0,.string ⟨#[]⟩,.int .i64 0,.slice none 0 0,.slice none 0 0] 27)) ((w.alloc (.cells #[.int .i64 0,.string ⟨#[]⟩,.int .i64 0,.slice none 0 0,.slice none 0 0] 27)).alloc (.cells #[.int .i64 6,.string ⟨#[]⟩,.int .i64 0,.slice none 0 0,.slice none 0 0] 27)):=(zB _ _).alloc (zL _) _
 have hb2:=hbz.trans (hbe.mono hbz.size);have h2:=h.below hb2;have KN:=zH (next_any h2);have hf:=five_new (w.alloc (.cells #[.int .i64 0,.string ⟨#[]⟩,.int .i64 0,.slice none 0 0,.slice none 0 0] 27)) (.int .i64 6) (.string ⟨#[]⟩) (.int .i64 0) (.slice none 0 0) (.slice none 0 0) 27;rw[hw1] at hf;have HF:=zH hf;have HZ:=zH ((zero_new w 27).step hbe);have HPS:=zH h2;have HT:=zH ((Turn.refl P w).low hb2)
 have HLO:=zH h.lo;have hpbl:=h.size;have HG:=zH (mess_unary (ex:=expr n) hh);have HH:=zH hh;have htx:=text_le (p:=p) h.fit.fit;have e1:(nxt (rest P p)).kind=1:=nxt_eq hh;clear h hn hh hbz hw1 hbe hb2 h2 hf;generalize message (expr n) (rest P p)=G at *;generalize hpb:P.pb=pb at *;have HPB:=zH hpb;clear hpb;generalize nxt (rest P p)=t at *;obtain ⟨tk,tt,tn⟩:=t;simp only at e1;subst e1
 go_enter Tryz.func166,Tryz.ntmps166;go_wp2_with fail
 refine KN.out.mono ?_;rintro e w3 ⟨rfl,hb3⟩;have KT:=zH (take_yes (HPS.out.below hb3) HH.out);have HT3:=zH (HT.out.below hb3);have HZ3:=zH (HZ.out.step hb3);have HF3:=zH (HF.out.step hb3);rw[HPB.out] at KT;clear hb3 KN;generalize hxx:txt (rest P p)=x at *;clear hxx;go_wp2_with fail
 refine KT.out.mono ?_;rintro e w4 ⟨rfl,h4,ht4⟩;have HPS4:=zH h4;have HT4:=zH (HT3.out.trans ht4);obtain ⟨hszz,y0,y1,y2,y3,y4,yfz⟩:=HZ3.out.turn ht4 (by rw[HPB.out];omega);obtain ⟨hs5,f0,f1,f2,f3,f4,ffz⟩:=HF3.out.turn ht4 (by rw[HPB.out];omega);clear h4 ht4 KT;go_wp2_with fail
 have hb8:Below w.heap.size w4 (w4.setCell ⟨w.heap.size+1,1,none⟩ (.string x)):=(zB _ _).setCell (by show w.heap.size<=w.heap.size+1;omega) _;have hb9:=zah (B:=w.heap.size) hb8 (zL _) (.int .i64 6) (.string x) (.int .i64 0) (.slice none 0 0) (.slice none 0 0);refine bodyPost_ret (v:=.agg #[.int .i64 6,.string x,.int .i64 0,.slice none 0 0,.slice none 0 0]) (by simp[results,Tryz.results166,go_sem, *]) rfl ?_
 exact .inl ⟨.mk 6 x 0 [] (.slice none 0 0) (.slice none 0 0) [],p+1,rfl,own_leaf (by rfl) (by rfl) (by unfold maxLen;omega),HPS4.out.low hb9 HLO.out,HT4.out.low hb9,by rw[HG.out,zak];rfl⟩
theorem unary_any {n:Nat} (hx:XI n) {P:Cst} {p:Nat} {w:World} (h:IS P p w) (hn:(rest P p).length<=n):
  Calls Tryz.prog 203 #[.pointer (some ⟨P.pb,0,none⟩)] w (IBack P w (drop2 (unary (expr n) (rest P p)))):=by
 have hbz:Below w.heap.size w (w.alloc (.cells #[.int .i64 0,.string ⟨#[]⟩,.int .i64 0,.slice none 0 0,.slice none 0 0] 27)):=(zB _ _).alloc (zL _) _;have hw1:(w.alloc (.cells #[.int .i64 0,.string ⟨#[]⟩,.int .i64 0,.slice none 0 0,.slice none 0 0] 27)).heap.size=w.heap.size+1:=by simp
 have KP:=zH (primary_any hx (h.below hbz) hn);have KS:=zH (fun (w1:World) (q:Nat) (t:T) (h1:IS P q w1) (hl:(rest P q).length<=n) (ho:Own (w.heap.size+1) w1 t) (hw:w.heap.size+1<=w1.heap.size)=>sends_any (by decide) (message_1 n) h1 hl ho (Nat.lt_succ_of_lt h.size) hw)
 have HW1:=zH hw1;have HT:=zH ((Turn.refl P w).low hbz);have HZ:=zH (zero_new w 27);have HLO:=zH h.lo;have hpbl:=h.size;have HLEN:=zH hn;have HG:=zH (unary_s (zat n) (rest P p));clear h hn hx hbz hw1;generalize drop2 (unary (expr n) (rest P p))=G at *;generalize hpb:P.pb=pb at *;have HPB:=zH hpb;clear hpb;go_enter Tryz.func203,Tryz.ntmps203;go_wp2_with fail
 refine KP.out.mono ?_;rintro e w3 (⟨t,q3,rfl,ho3,h3,ht3,hg3⟩|⟨⟨v,rfl⟩,ht3,hg3⟩)
 case inr=>
  have HG2:Hid (G=none):=zH (by rw[HG.out,hg3]);have HT3:=zH (HT.out.trans ht3);clear ht3 hg3 KP;go_wp2_with fail
  exact ⟨rfl,.inr ⟨⟨_,rfl⟩,HT3.out,HG2.out⟩⟩
 rw[HW1.out] at ho3;have hs3:=ht3.size;rw[HW1.out] at hs3;have HG3:Hid (G=sLoop (expr n) 1 (toE t) (rest P q3)):=zH (by rw[HG.out,hg3])
 have HLQ:Hid ((rest P q3).length<=n):=zH (by have h1:=primary_lt (zat n) hg3;have h2:=HLEN.out;omega)
 have KS3:=zH (KS.out w3 q3 t h3 HLQ.out ho3 hs3);have HT3:=zH (HT.out.trans ht3);have HZ3:=zH (HZ.out.turn ht3 (by rw[HPB.out];omega));clear ho3 h3 ht3 hg3 KP KS;go_wp2_with fail
 refine KS3.out.mono ?_;rintro e w5 (⟨u,q5,rfl,ho5,h5,ht5,hg5⟩|⟨⟨v,rfl⟩,ht5,hg5⟩)
 case inr=>
  have HG2:Hid (G=none):=zH (by rw[HG3.out,hg5]);have HT5:=zH (HT3.out.trans ht5);clear ht5 hg5 KS3;go_wp2_with fail
  exact ⟨rfl,.inr ⟨⟨_,rfl⟩,HT5.out,HG2.out⟩⟩
 obtain ⟨fa,fc,fa',fc',hf1,hf2⟩:=good_forms ho5.good;obtain ⟨uk,ut,un,uns,uvn,uvk,uks⟩:=u;simp only[T.vn,T.vk,T.names,T.kids] at hf1 hf2;subst hf1 hf2;have HO5:=zH ho5;have HPS5:=zH h5;have HT5:=zH (HT3.out.trans ht5);have HG5:Hid (G=some (toE (.mk uk ut un uns (.slice fa uns.length fc) (.slice fa' uks.length fc') uks),rest P q5)):=zH (by rw[HG3.out,hg5]);obtain ⟨hszz,y0,y1,y2,y3,y4,yfz⟩:=HZ3.out.turn ht5 (by rw[HPB.out];omega)
 unfold agg;simp only[T.kind,T.text,T.num,T.vn,T.vk];clear ho5 h5 ht5 hg5 KS3;go_wp2_with fail
 have hb9:=zah (zB w.heap.size w5) (B:=w.heap.size) (zL _) (.int .i64 uk) (.string ut) (.int .i64 un) (.slice fa uns.length fc) (.slice fa' uks.length fc');refine bodyPost_ret (v:=.agg #[.int .i64 uk,.string ut,.int .i64 un,.slice fa uns.length fc,.slice fa' uks.length fc']) (by simp[results,Tryz.results203,go_sem, *]) rfl ?_;exact .inl ⟨.mk uk ut un uns (.slice fa uns.length fc) (.slice fa' uks.length fc') uks,q5,rfl,(Own.put5 HO5.out (B:=w.heap.size) (fun hm=>by have:=HO5.out.lo _ hm;omega) _ _ _ _ _).mono (Nat.le_succ _),HPS5.out.low hb9 HLO.out,HT5.out.low hb9,HG5.out⟩
theorem message_6 {n:Nat} (hx:XI n):MC n 6:=by
 intro P p w h hn hh;have hfd:=field0;have hbz:Below w.heap.size w (w.alloc (.cells #[.int .i64 0,.string ⟨#[]⟩,.int .i64 0,.slice none 0 0,.slice none 0 0] 27)):=(zB _ _).alloc (zL _) _;have hw1:(w.alloc (.cells #[.int .i64 0,.string ⟨#[]⟩,.int .i64 0,.slice none 0 0,.slice none 0 0] 27)).heap.size=w.heap.size+1:=by simp
 have hbe:Below (w.alloc (.cells #[.int .i64 0,.string ⟨#[]⟩,.int .i64 0,.slice none 0 0,.slice none 0 0] 27)).heap.size (w.alloc (.cells #[.int .i64 0,.string ⟨#[]⟩,.int .i64 0,.slice none 0 0,.slice none 0 0] 27)) ((w.alloc (.cells #[.int .i64 0,.string ⟨#[]⟩,.int .i64 0,.slice none 0 0,.slice none 0 0] 27)).alloc (.cells #[.int .i64 6,.string ⟨#[]⟩,.int .i64 0,.slice none 0 0,.slice none 0 0] 27)):=(zB _ _).alloc (zL _) _
 have hb2:=hbz.trans (hbe.mono hbz.size);have h2:=h.below hb2;have KN:=zH (next_any h2);have hf:=five_new (w.alloc (.cells #[.int .i64 0,.string ⟨#[]⟩,.int .i64 0,.slice none 0 0,.slice none 0 0] 27)) (.int .i64 6) (.string ⟨#[]⟩) (.int .i64 0) (.slice none 0 0) (.slice none 0 0) 27;rw[hw1] at hf;have KU:=zH (fun (w1:World) (q:Nat) (h1:IS P q w1) (hl:(rest P q).length<=n)=>unary_any hx h1 hl)
 have HF:=zH hf;have HZ:=zH ((zero_new w 27).step hbe);have HPS:=zH h2;have HT:=zH ((Turn.refl P w).low hb2);have HLO:=zH h.lo;have hpbl:=h.size;have HG:=zH (mess_binary (ex:=expr n) hh);have HH:=zH hh;have HLEN:=zH hn;have htx:=text_le (p:=p) h.fit.fit;have e1:(nxt (rest P p)).kind=6:=nxt_eq hh;clear h hn hh hx hbz hw1 hbe hb2 h2 hf;generalize message (expr n) (rest P p)=G at *
 generalize hpb:P.pb=pb at *;have HPB:=zH hpb;clear hpb;generalize nxt (rest P p)=t at *;obtain ⟨tk,tt,tn⟩:=t;simp only at e1;subst e1;generalize hxx:txt (rest P p)=x at *;have HXX:=zH hxx;clear hxx;go_enter Tryz.func166,Tryz.ntmps166;go_wp2_with fail
 refine KN.out.mono ?_;rintro e w3 ⟨rfl,hb3⟩;have KT:=zH (take_yes (HPS.out.below hb3) HH.out);have HT3:=zH (HT.out.below hb3);have HZ3:=zH (HZ.out.step hb3);have HF3:=zH (HF.out.step hb3);rw[HPB.out,HXX.out] at KT;clear hb3 KN;go_wp2_with fail
 refine KT.out.mono ?_;rintro e w4 ⟨rfl,h4,ht4⟩;have HF4:=zH (HF3.out.turn ht4 (by rw[HPB.out];omega));have hb4:Below w.heap.size w4 (w4.setCell ⟨w.heap.size+1,1,none⟩ (.string x)):=(zB _ _).setCell (by show w.heap.size<=w.heap.size+1;omega) _;have hb4':Below (w.heap.size+1) w4 (w4.setCell ⟨w.heap.size+1,1,none⟩ (.string x)):=(zB _ _).setCell (by show w.heap.size+1<=w.heap.size+1;omega) _
 have HT5:=zH ((HT3.out.trans ht4).low hb4);have HZ5:=zH ((HZ3.out.turn ht4 (by rw[HPB.out];omega)).low hb4' (Nat.lt_succ_self _));have HF5:=zH (five_set1 HF4.out (.string x));have hq1:=hd_lt' HH.out
 have KU5:=zH (KU.out _ (p+1) (h4.low hb4 HLO.out) (by have h1:=HLEN.out;rw[zar] at h1 ⊢;omega))
 have hw5:(w4.setCell ⟨w.heap.size+1,1,none⟩ (.string x)).heap.size=w4.heap.size:=by simp[World.setCell]
 have hs4:=ht4.size;have hs3:=HF3.out.size;obtain ⟨hs5,f0,f1,f2,f3,f4,ffz⟩:=HF4.out;clear h4 ht4 KT hb4 hb4';go_wp2_with fail
 refine KU5.out.mono ?_;rintro e w6 (⟨u,q6,rfl,ho6,h6,ht6,hg6⟩|⟨⟨v,rfl⟩,ht6,hg6⟩)
 case inr=>
  have HG2:Hid (G=none):=zH (by rw[HG.out,zak,hg6]);have HT6:=zH (HT5.out.trans ht6);clear ht6 hg6 KU5;go_wp2_with fail
  exact ⟨rfl,.inr ⟨⟨_,rfl⟩,HT6.out,HG2.out⟩⟩
 have hs6:=ht6.size;rw[hw5] at hs6 ho6;have hba:Below w6.heap.size w6 (w6.alloc (.cells #[.int .i64 u.kind,.string u.text,.int .i64 u.num,u.vn,u.vk] 27)):=(zB _ _).alloc (zL _) _;have HL6:=zH ((lit_row ho6 hs6).node (k:=6) (n:=0) (s:=x) (by rfl) (by rfl) (by unfold maxLen;omega));have HPS6:=zH h6;have HT6:=zH (HT5.out.trans ht6);have HG2:Hid (G=some (eMsg x [toE u],rest P q6)):=zH (by rw[HG.out,zak,hg6])
 obtain ⟨hszz,y0,y1,y2,y3,y4,yfz⟩:=HZ5.out.turn ht6 (by rw[HPB.out];omega);obtain ⟨hsg,g0,g1,g2,g3,g4,gfz⟩:=HF5.out.turn ht6 (by rw[HPB.out];omega);unfold agg;clear ho6 h6 ht6 hg6 KU5 hba f0 f1 f2 f3 f4 ffz hw5 hs5;go_wp2_with fail
 have hb8:Below w.heap.size w6 (w6.setCell ⟨w.heap.size+1,4,none⟩ (.slice (some ⟨w6.heap.size,0,none⟩) 1 1)):=(zB _ _).setCell (by show w.heap.size<=w.heap.size+1;omega) _;have hb9:=zah (B:=w.heap.size) hb8 (zL _) (.int .i64 6) (.string x) (.int .i64 0) (.slice none 0 0) (.slice (some ⟨w6.heap.size,0,none⟩) 1 1);have hba:∀ W:World,Below W.heap.size W (W.alloc (.cells #[.int .i64 u.kind,.string u.text,.int .i64 u.num,u.vn,u.vk] 27)):=fun W=>(zB _ _).alloc (zL _) _
 refine bodyPost_ret (v:=.agg #[.int .i64 6,.string x,.int .i64 0,.slice none 0 0,.slice (some ⟨w6.heap.size,0,none⟩) 1 1]) (by simp[results,Tryz.results166,go_sem, *]) rfl ?_;refine .inl ⟨.mk 6 x 0 [] (.slice none 0 0) (.slice (some ⟨w6.heap.size,0,none⟩) 1 1) [u],q6,rfl,(HL6.out.frame fun b hb=>?_).mono (by omega),(HPS6.out.low hb9 HLO.out).below (hba _),(HT6.out.low hb9).below (hba _),by rw[HG2.out];rfl⟩
 have h1:=HL6.out.lo b hb;exact alloc_heap _ (by simp[World.setCell]) (fun _=>(put5_heap _ w.heap.size _ _ _ _ _ (by omega)).trans (set_heap w6 (w.heap.size+1) 4 _ (by omega)))
theorem binary_any {n:Nat} (hx:XI n) {P:Cst} {p:Nat} {w:World} (h:IS P p w) (hn:(rest P p).length<=n):
  Calls Tryz.prog 204 #[.pointer (some ⟨P.pb,0,none⟩)] w (IBack P w (drop2 (binary (expr n) (rest P p)))):=by
 have hbz:Below w.heap.size w (w.alloc (.cells #[.int .i64 0,.string ⟨#[]⟩,.int .i64 0,.slice none 0 0,.slice none 0 0] 27)):=(zB _ _).alloc (zL _) _;have hw1:(w.alloc (.cells #[.int .i64 0,.string ⟨#[]⟩,.int .i64 0,.slice none 0 0,.slice none 0 0] 27)).heap.size=w.heap.size+1:=by simp
 have KP:=zH (unary_any hx (h.below hbz) hn);have KS:=zH (fun (w1:World) (q:Nat) (t:T) (h1:IS P q w1) (hl:(rest P q).length<=n) (ho:Own (w.heap.size+1) w1 t) (hw:w.heap.size+1<=w1.heap.size)=>sends_any (by decide) (message_6 hx) h1 hl ho (Nat.lt_succ_of_lt h.size) hw)
 have HW1:=zH hw1;have HT:=zH ((Turn.refl P w).low hbz);have HZ:=zH (zero_new w 27);have HLO:=zH h.lo;have hpbl:=h.size;have HLEN:=zH hn;have HG:=zH (binary_s (zat n) (rest P p));clear h hn hx hbz hw1;generalize drop2 (binary (expr n) (rest P p))=G at *;generalize hpb:P.pb=pb at *;have HPB:=zH hpb;clear hpb;go_enter Tryz.func204,Tryz.ntmps204;go_wp2_with fail
 refine KP.out.mono ?_;rintro e w3 (⟨t,q3,rfl,ho3,h3,ht3,hg3⟩|⟨⟨v,rfl⟩,ht3,hg3⟩)
 case inr=>
  have HG2:Hid (G=none):=zH (by rw[HG.out,hg3]);have HT3:=zH (HT.out.trans ht3);clear ht3 hg3 KP;go_wp2_with fail
  exact ⟨rfl,.inr ⟨⟨_,rfl⟩,HT3.out,HG2.out⟩⟩
 rw[HW1.out] at ho3;have hs3:=ht3.size;rw[HW1.out] at hs3;have HG3:Hid (G=sLoop (expr n) 6 (toE t) (rest P q3)):=zH (by rw[HG.out,hg3])
 have HLQ:Hid ((rest P q3).length<=n):=zH (by have h1:=drop2_short (zat n) hg3;have h2:=HLEN.out;omega)
 have KS3:=zH (KS.out w3 q3 t h3 HLQ.out ho3 hs3);have HT3:=zH (HT.out.trans ht3);have HZ3:=zH (HZ.out.turn ht3 (by rw[HPB.out];omega));clear ho3 h3 ht3 hg3 KP KS;go_wp2_with fail
 refine KS3.out.mono ?_;rintro e w5 (⟨u,q5,rfl,ho5,h5,ht5,hg5⟩|⟨⟨v,rfl⟩,ht5,hg5⟩)
 case inr=>
  have HG2:Hid (G=none):=zH (by rw[HG3.out,hg5]);have HT5:=zH (HT3.out.trans ht5);clear ht5 hg5 KS3;go_wp2_with fail
  exact ⟨rfl,.inr ⟨⟨_,rfl⟩,HT5.out,HG2.out⟩⟩
 obtain ⟨fa,fc,fa',fc',hf1,hf2⟩:=good_forms ho5.good;obtain ⟨uk,ut,un,uns,uvn,uvk,uks⟩:=u;simp only[T.vn,T.vk,T.names,T.kids] at hf1 hf2;subst hf1 hf2;have HO5:=zH ho5;have HPS5:=zH h5;have HT5:=zH (HT3.out.trans ht5);have HG5:Hid (G=some (toE (.mk uk ut un uns (.slice fa uns.length fc) (.slice fa' uks.length fc') uks),rest P q5)):=zH (by rw[HG3.out,hg5]);obtain ⟨hszz,y0,y1,y2,y3,y4,yfz⟩:=HZ3.out.turn ht5 (by rw[HPB.out];omega)
 unfold agg;simp only[T.kind,T.text,T.num,T.vn,T.vk];clear ho5 h5 ht5 hg5 KS3;go_wp2_with fail
 have hb9:=zah (zB w.heap.size w5) (B:=w.heap.size) (zL _) (.int .i64 uk) (.string ut) (.int .i64 un) (.slice fa uns.length fc) (.slice fa' uks.length fc');refine bodyPost_ret (v:=.agg #[.int .i64 uk,.string ut,.int .i64 un,.slice fa uns.length fc,.slice fa' uks.length fc']) (by simp[results,Tryz.results204,go_sem, *]) rfl ?_;exact .inl ⟨.mk uk ut un uns (.slice fa uns.length fc) (.slice fa' uks.length fc') uks,q5,rfl,(Own.put5 HO5.out (B:=w.heap.size) (fun hm=>by have:=HO5.out.lo _ hm;omega) _ _ _ _ _).mono (Nat.le_succ _),HPS5.out.low hb9 HLO.out,HT5.out.low hb9,HG5.out⟩
end ParI
end Go.Proofs.YtbigfeblomfflaaGreatDoor
